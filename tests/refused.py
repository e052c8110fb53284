"""Lists that are refused, each with its refusal, and at the end of each row one that is fine, with None."""

from tests.books import B
from tests.plans import S, make_room, make_saw

ROOMS = [
    ([], [-5, 1, 0]),
    (S[:9], [-5, 1, 0]),
    (make_room(make_saw(66)), [-5, 1, 0]),
    ([0] + S[1:], [-5, 2, 0]),
    (S[:8] + [8] + S[9:], [-5, 3, 1]),
    (make_room([(0, 0), (200, 100), (200, 200), (0, 200)]), [-5, 4, 0]),
    (make_room([(100, 0), (200, 0), (200, 200), (0, 200), (0, 0)]), [-5, 5, 4]),
    (make_room([(0, 0), (200, 200), (200, 0), (0, 200)]), [-5, 6, 0]),
    (make_room([(0, 0), (0, 200), (200, 200), (200, 0)]), [-5, 7, 0]),
    (S, None),
]
BOOKS = [([], [-6, 0]), (B[:35], [-6, 35]), (B[:7] + [32769] + B[8:], [-6, 7]), (B, None)]


def first_refusal(*told):
    """The first refusal of some that are looked at in this order, or None; each is what is handed in, and it."""
    return next((refusal for handed, refusal in told if refusal), None)
