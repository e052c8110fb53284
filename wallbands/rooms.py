"""The calls of wallbands. Each is by itself: nothing is kept between two of them."""

from wallbands.books import BANDS
from wallbands.books import find_book_fault
from wallbands.books import find_gain
from wallbands.books import find_level
from wallbands.paths import find_paths
from wallbands.plans import count_walls
from wallbands.plans import find_room_fault
from wallbands.plans import find_stuff
from wallbands.plans import is_inside

FINE = 0
OUT_OF_RANGE = -1
NO_PATH = -2
NOT_INSIDE = -3
TOO_LONG = -4
NO_ROOM = -5
NO_BOOK = -6

MOST_TURNS = 4
GREATEST_LENGTH2 = 1099511627776
TOO_GREAT_GAIN = 18446744073709551616


def judge(book):
    """[0] of a book, else [-6, the book's fault]."""
    fault = find_book_fault(book)
    if fault is None:
        return [FINE]
    return [NO_BOOK, fault]


def refuse_room_or_book(room, book):
    """The refusal of what is no room or no book, or None if they are."""
    room_fault = find_room_fault(room)
    if room_fault is not None:
        return [NO_ROOM, room_fault[0], room_fault[1]]
    book_fault = find_book_fault(book)
    if book_fault is not None:
        return [NO_BOOK, book_fault]
    return None


def are_walls(room, walls):
    """Whether these are walls of the room and not too many for a path."""
    return len(walls) <= MOST_TURNS and all([wall < count_walls(room) for wall in walls])


def find_gain_by_walls(length2, room, book, walls, band):
    """The gain in that band of a path of that length squared by those walls."""
    return find_gain(length2, book, [find_stuff(room, wall) for wall in walls], band)


def gains(length2, room, book, walls):
    """[0, of each band the gain of a path of that length squared by those walls], or a refusal."""
    refusal = refuse_room_or_book(room, book)
    if refusal is not None:
        return refusal
    if not are_walls(room, walls):
        return [OUT_OF_RANGE]
    if length2 > GREATEST_LENGTH2:
        return [TOO_LONG]
    return [FINE] + [find_gain_by_walls(length2, room, book, walls, band) for band in range(BANDS)]


def levels(gains):
    """[0, of each gain its level], or [-1] if one of them is too great."""
    if any([gain >= TOO_GREAT_GAIN for gain in gains]):
        return [OUT_OF_RANGE]
    return [FINE] + [find_level(gain) for gain in gains]


def refuse_way(room, book, is_in_range, start, end):
    """The refusal of what paths can't be looked for in, or None; whether the other numbers are in range is told."""
    refusal = refuse_room_or_book(room, book)
    if refusal is not None:
        return refusal
    if not is_in_range:
        return [OUT_OF_RANGE]
    if not (is_inside(room, start) and is_inside(room, end)):
        return [NOT_INSIDE]
    return None


def add_energies(paths, room, book, band):
    """The energy of the paths' gains in that band."""
    told = [find_gain_by_walls(path[0], room, book, path[1], band) for path in paths]
    return sum([gain * gain for gain in told])


def energy(x, y, z, u, v, t, most, from_length, to_length, room, book):
    """[0, of each band the energy of the paths whose length squared is in that range], or a refusal."""
    start = (x, y, z)
    end = (u, v, t)
    refusal = refuse_way(room, book, most <= MOST_TURNS, start, end)
    if refusal is not None:
        return refusal
    found = find_paths(room, start, end, most)
    paths = [path for path in found if from_length <= path[0] < to_length]
    return [FINE] + [add_energies(paths, room, book, band) for band in range(BANDS)]


def rank_path(path, room, book, band):
    """What is least of the first path with the greatest gain: by the gain, then as paths are in order."""
    gain = find_gain_by_walls(path[0], room, book, path[1], band)
    return (-gain, path[0], len(path[1]), path[1])


def best(x, y, z, u, v, t, most, band, room, book):
    """[0, length squared and walls of the first path of those with the greatest gain in that band], or a refusal."""
    start = (x, y, z)
    end = (u, v, t)
    refusal = refuse_way(room, book, most <= MOST_TURNS and band < BANDS, start, end)
    if refusal is not None:
        return refusal
    ranked = [rank_path(path, room, book, band) for path in find_paths(room, start, end, most)]
    if not ranked:
        return [NO_PATH]
    first = min(ranked)
    return [FINE, first[1]] + first[3]
