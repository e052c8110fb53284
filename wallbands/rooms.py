"""The calls of wallbands. Each is by itself: nothing is kept between two of them."""

FINE = 0
NO_BOOK = -6

BOOK_LENGTH = 36
WHOLE_PART = 32768


def find_book_fault(book):
    """The book's fault, or None if it is a book."""
    # None says "no fault", since 0 is a fault: no numbers at all, or the first one too great.
    if len(book) != BOOK_LENGTH:
        return len(book)
    for place, part in enumerate(book):
        if part > WHOLE_PART:
            return place
    return None


def judge(book):
    """[0] of a book, else [-6, the book's fault]."""
    fault = find_book_fault(book)
    if fault is None:
        return [FINE]
    return [NO_BOOK, fault]
