"""Rooms, books and points by chance, and the same ones each time: so small that legs often just touch a corner."""

from tests.books import B
from tests.plain_paths import PlainRoom
from tests.plans import ANGLE, OCTAGON, SQUARE, TRIANGLE
from tests.plans import begin_at, make_room
from wallbands.rooms import gains


def add_bump(choice, corners):
    """The plan with a tooth, a box or a stump on one of its lines, outwards or inwards, be it a room or not."""
    number = choice.randrange(len(corners))
    start, end = corners[number], corners[(number + 1) % len(corners)]
    length = max(abs(end[0] - start[0]), abs(end[1] - start[1]))
    along = ((end[0] - start[0]) // length, (end[1] - start[1]) // length)
    side = choice.choice((1, -1))
    at, depth, width = choice.randrange(length), choice.randrange(1, 4), choice.randrange(1, 4)
    bump = choice.choice((
        [(at, 0), (at + depth, depth), (at + 2 * depth, 0)],
        [(at, 0), (at, depth), (at + width, depth), (at + width, 0)],
        [(at, 0), (at + depth, depth), (at + depth + width, depth), (at + 2 * depth + width, 0)],
    ))
    added = [
        (start[0] + far * along[0] - side * deep * along[1], start[1] + far * along[1] + side * deep * along[0])
        for far, deep in bump
    ]
    return corners[:number + 1] + [place for place in added if place not in (start, end)] + corners[number + 1:]


def draw_corners(choice, bumps):
    """A plan that makes a room, with that many bumps at most."""
    size = choice.randrange(2, 7)
    corners = [(x * size // 100 + 3, y * size // 100 + 3) for x, y in choice.choice((SQUARE, TRIANGLE, ANGLE, OCTAGON))]
    for time in range(bumps):
        changed = add_bump(choice, corners)
        if gains(0, make_room(changed), B, [])[0] == 0:
            corners = changed
    return begin_at(corners, choice.randrange(len(corners)))


def draw_room(choice, bumps=4, height=9):
    corners = draw_corners(choice, bumps)
    stuffs = [choice.randrange(8) for corner in corners]
    return make_room(corners, stuffs, (choice.randrange(2, height), choice.randrange(8), choice.randrange(8)))


def draw_book(choice):
    """A book with all kinds of numbers, most of them not so small that little is left."""
    return [choice.choice((0, 1, 32767, 32768, *[choice.randrange(12000, 32769) for time in range(8)])) for p in range(36)]


def list_points(room):
    """All whole points that are inside."""
    plain = PlainRoom(room)
    places = [range(min(numbers), max(numbers) + 1) for numbers in zip(*plain.corners)]
    plan = [(x, y) for x in places[0] for y in places[1] if plain.is_within(x, y)]
    return [(x, y, z) for x, y in plan for z in range(1, room[0])]


def draw_most(choice, room, bound):
    """How many turns, with no more than that many ways to choose their walls."""
    walls = len(room) // 3 + 1
    return choice.choice([most for most in range(5) if walls**most <= bound])
