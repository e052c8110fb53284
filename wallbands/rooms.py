"""The calls of wallbands. Each is by itself: nothing is kept between two of them."""

from wallbands.books import BANDS
from wallbands.books import find_book_fault
from wallbands.books import find_gain
from wallbands.books import find_level
from wallbands.plans import count_walls
from wallbands.plans import find_room_fault
from wallbands.plans import find_stuff

FINE = 0
OUT_OF_RANGE = -1
TOO_LONG = -4
NO_ROOM = -5
NO_BOOK = -6

MOST_TURNS = 4
GREATEST_LENGTH2 = 1099511627776
TOO_GREAT_GAIN = 18446744073709551616


def judge(book):
    """[0] of a book, else [-6, the book's fault]."""
    fault = find_book_fault(book)
    if fault is None:
        return [FINE]
    return [NO_BOOK, fault]


def refuse_room_or_book(room, book):
    """The refusal of what is no room or no book, or None if they are."""
    room_fault = find_room_fault(room)
    if room_fault is not None:
        return [NO_ROOM, room_fault[0], room_fault[1]]
    book_fault = find_book_fault(book)
    if book_fault is not None:
        return [NO_BOOK, book_fault]
    return None


def are_walls(room, walls):
    """Whether these are walls of the room and not too many for a path."""
    return len(walls) <= MOST_TURNS and all([wall < count_walls(room) for wall in walls])


def gains(length2, room, book, walls):
    """[0, of each band the gain of a path of that length squared by those walls], or a refusal."""
    refusal = refuse_room_or_book(room, book)
    if refusal is not None:
        return refusal
    if not are_walls(room, walls):
        return [OUT_OF_RANGE]
    if length2 > GREATEST_LENGTH2:
        return [TOO_LONG]
    stuffs = [find_stuff(room, wall) for wall in walls]
    return [FINE] + [find_gain(length2, book, stuffs, band) for band in range(BANDS)]


def levels(gains):
    """[0, of each gain its level], or [-1] if one of them is too great."""
    if any([gain >= TOO_GREAT_GAIN for gain in gains]):
        return [OUT_OF_RANGE]
    return [FINE] + [find_level(gain) for gain in gains]
