"""Rooms to test with, by their corners."""

SQUARE = [(0, 0), (200, 0), (200, 200), (0, 200)]
TRIANGLE = [(0, 0), (200, 0), (0, 200)]
# Its lines run in all eight directions, one after another.
OCTAGON = [(100, 0), (200, 0), (300, 100), (300, 200), (200, 300), (100, 300), (0, 200), (0, 100)]
# Six side walls, so that with floor and ceiling each stuff has a wall of its own.
ANGLE = [(0, 0), (300, 0), (300, 100), (100, 100), (100, 200), (0, 200)]
# A slab reaches in from the left: walls 4 and 6 are its two sides, the room goes round its end, wall 5.
SLAB = [(0, 0), (100, 0), (100, 100), (0, 100), (0, 60), (60, 60), (60, 40), (0, 40)]

# Rooms as lists: two squares, one without and one with unlike stuffs, an angle, and a room with slanting lines.
S = [100, 0, 0, 0, 0, 0, 200, 0, 0, 200, 200, 0, 0, 200, 0]
T = [100, 0, 1, 0, 0, 2, 200, 0, 3, 200, 200, 4, 0, 200, 5]
L = [100, 0, 1, 0, 0, 2, 200, 0, 3, 200, 100, 4, 100, 100, 5, 100, 200, 6, 0, 200, 7]
D = [60, 1, 2, 0, 50, 3, 50, 0, 4, 150, 0, 5, 200, 50, 6, 200, 150, 7, 150, 200, 0, 50, 200, 1, 0, 150, 2]


def make_room(corners, stuffs=None, head=(100, 0, 0)):
    """The room as a list; stuffs are those of the side walls, all 0 if not told."""
    room = list(head)
    for number, (x, y) in enumerate(corners):
        room += [x, y, stuffs[number] if stuffs else 0]
    return room


def make_saw(corners):
    """A plan of that many corners (an even number, 6 or more): a floor line, two sides and teeth along the top."""
    teeth = corners - 2
    top = [(10 * (teeth - 1 - k), 100 + 10 * (k % 2)) for k in range(teeth)]
    return [(0, 0), (10 * (teeth - 1), 0)] + top


def make_comb(corners):
    """A plan of that many corners (8, 12, 16 ...) whose lines run along x and y alone: teeth along the bottom."""
    gaps = corners // 4 - 1
    bottom = [(0, 0)]
    for k in range(gaps):
        bottom += [(20 * k + 10, 0), (20 * k + 10, 50), (20 * k + 20, 50), (20 * k + 20, 0)]
    end = 20 * gaps + 10
    return bottom + [(end, 0), (end, 90), (0, 90)]


def begin_at(corners, number):
    """The same plan, numbered from that corner on."""
    return corners[number:] + corners[:number]


def turn(corners, width):
    """The plan turned by a quarter to the left, within 0 to width."""
    return [(width - y, x) for x, y in corners]


def mirror(corners, width):
    """The plan mirrored, walked so that the room is to the left as before."""
    return [(width - x, y) for x, y in reversed(corners)]


def change(room, changes):
    """The room, but for the numbers that changes tells by their places."""
    changed = list(room)
    for place, number in changes.items():
        changed[place] = number
    return changed
