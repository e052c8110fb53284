"""Books as lists: what part comes back, by stuffs, each by bands; then what the air leaves, by bands."""

BOOK_LENGTH = 36
WHOLE_PART = 32768
BANDS = 4
AIR_PLACE = 32

AIR_STEP = 1024
GREATEST_GAIN = 4294967296

WHOLE_GAIN = 16777216
NO_LEVEL = -100000


def find_book_fault(book):
    """The book's fault, or None if it is a book."""
    # None says "no fault", since 0 is a fault: no numbers at all, or the first one too great.
    if len(book) != BOOK_LENGTH:
        return len(book)
    for place, part in enumerate(book):
        if part > WHOLE_PART:
            return place
    return None


def find_root(number):
    """The greatest whole number whose square is not above that number."""
    step = 1
    while step * step <= number:
        step = step * 2
    root = 0
    while step > 0:
        if (root + step) * (root + step) <= number:
            root = root + step
        step = step // 2
    return root


def list_parts(length2, book, stuffs, band):
    """What each of those stuffs gives back and what the air leaves on each whole step, in that band."""
    steps = find_root(length2 // (AIR_STEP * AIR_STEP))
    return [book[stuff * BANDS + band] for stuff in stuffs] + [book[AIR_PLACE + band]] * steps


def find_gain(length2, book, stuffs, band):
    """The gain in that band of a path of that length squared by walls of those stuffs."""
    left = GREATEST_GAIN
    whole = 1
    for part in list_parts(length2, book, stuffs, band):
        left = left * part
        whole = whole * WHOLE_PART
    # The length is a root, so the fraction is squared and its root is taken last: nothing is rounded before.
    # It is doubled, for only then rounding down still tells on which side of the middle it lies.
    doubled = find_root(4 * left * left // (max(length2, 1) * whole * whole))
    return (doubled + 1) // 2


def find_level(gain):
    """20 times the logarithm (to 10) of the gain over 2^24, rounded down; of gain 0, which has none, -100,000."""
    if gain == 0:
        return NO_LEVEL
    # To the power of 20 the level is the plain logarithm of a fraction, and no root is taken. The 10^8 keeps
    # the fraction above 1 and adds 160 to its logarithm; a number's digits tell how many tens are in it.
    fraction = (gain * 10 ** 8) ** 20 // WHOLE_GAIN ** 20
    return len(str(fraction)) - 1 - 160
