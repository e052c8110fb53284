"""Gains by the words of the document, to hold answers against."""

MOST = 32768
WHOLE = 2**32


def fraction(length2, book, stuffs, band):
    """Numerator and denominator of the gain's square, before it is rounded: the fraction itself has a root."""
    square = max(length2, 1)
    steps = 0
    while (1024 * (steps + 1))**2 <= square:
        steps += 1
    over = WHOLE * book[32 + band]**steps
    under = MOST**(steps + len(stuffs))
    for stuff in stuffs:
        over *= book[4 * stuff + band]
    return over**2, under**2 * square


def reaches(gain, over, under):
    """Whether the root of over by under is that gain less 1/2 or more, doubled and squared."""
    return gain == 0 or (2 * gain - 1)**2 * under <= 4 * over


def is_nearest(gain, over, under):
    """Whether the gain is the whole number nearest to the root of over by under, of two as near the greater."""
    return reaches(gain, over, under) and not reaches(gain + 1, over, under)


def nearest_gain(length2, book, stuffs, band):
    """The gain itself, found by halving."""
    over, under = fraction(length2, book, stuffs, band)
    at, above = 0, WHOLE + 1
    while above - at > 1:
        middle = (at + above) // 2
        if reaches(middle, over, under):
            at = middle
        else:
            above = middle
    return at


def find_stuffs(room, walls):
    """The stuffs of the walls: those of the sides as they stand behind their corners, then floor and ceiling."""
    stuffs = room[5::3] + room[1:3]
    return [stuffs[wall] for wall in walls]


def list_gains(path, room, book):
    """Of each band the gain of a path, which is its length squared and its walls."""
    length2, walls = path
    return [nearest_gain(length2, book, find_stuffs(room, walls), band) for band in range(4)]


def add_energies(paths, room, book):
    """Of each band the energy of the gains of those paths."""
    told = [list_gains(path, room, book) for path in paths]
    return [sum(gains[band]**2 for gains in told) for band in range(4)]
