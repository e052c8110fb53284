"""Books to test with."""

B = [32768] * 36
C = [911 * place % 32769 for place in range(36)]
# All numbers of it differ, and none is so small that little is left.
RISING = [20001 + 349 * place for place in range(36)]


def make_book(stuffs, air):
    """A book that says the same of all bands: what comes back of each of eight stuffs, and what the air leaves."""
    return [part for part in list(stuffs) + [air] for band in range(4)]
