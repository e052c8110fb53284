"""Rooms to test with, by their corners."""

SQUARE = [(0, 0), (200, 0), (200, 200), (0, 200)]
TRIANGLE = [(0, 0), (200, 0), (0, 200)]
# Its lines run in all eight directions, one after another.
OCTAGON = [(100, 0), (200, 0), (300, 100), (300, 200), (200, 300), (100, 300), (0, 200), (0, 100)]
# Six side walls, so that with floor and ceiling each stuff has a wall of its own.
ANGLE = [(0, 0), (300, 0), (300, 100), (100, 100), (100, 200), (0, 200)]


def make_room(corners, stuffs=None, head=(100, 0, 0)):
    """The room as a list; stuffs are those of the side walls, all 0 if not told."""
    room = list(head)
    for number, (x, y) in enumerate(corners):
        room += [x, y, stuffs[number] if stuffs else 0]
    return room


def make_saw(corners):
    """A plan of that many corners (an even number, 6 or more): a floor line, two sides and teeth along the top."""
    teeth = corners - 2
    top = [(10 * (teeth - 1 - k), 100 + 10 * (k % 2)) for k in range(teeth)]
    return [(0, 0), (10 * (teeth - 1), 0)] + top


def make_comb(corners):
    """A plan of that many corners (8, 12, 16 ...) whose lines run along x and y alone: teeth along the bottom."""
    gaps = corners // 4 - 1
    bottom = [(0, 0)]
    for k in range(gaps):
        bottom += [(20 * k + 10, 0), (20 * k + 10, 50), (20 * k + 20, 50), (20 * k + 20, 0)]
    end = 20 * gaps + 10
    return bottom + [(end, 0), (end, 90), (0, 90)]


def begin_at(corners, number):
    """The same plan, numbered from that corner on."""
    return corners[number:] + corners[:number]


def turn(corners, width):
    """The plan turned by a quarter to the left, within 0 to width."""
    return [(width - y, x) for x, y in corners]


def mirror(corners, width):
    """The plan mirrored, walked so that the room is to the left as before."""
    return [(width - x, y) for x, y in reversed(corners)]


def change(room, changes):
    """The room, but for the numbers that changes tells by their places."""
    changed = list(room)
    for place, number in changes.items():
        changed[place] = number
    return changed
