"""Tests of the whole program: all calls one after another, and "The promises", 1 to 4, on drawn rooms."""

import copy
import itertools
import json
import pathlib
import random
import subprocess
import sys
import unittest

from tests.books import B, C, RISING
from tests.drawn import draw_book, draw_most, draw_room, list_points
from tests.plain_gains import MOST, WHOLE, fraction, is_nearest, list_gains
from tests.plain_paths import list_paths
from tests.plans import D, L, S, T
from tests.plans import make_room
from wallbands import rooms

M = 18446744073709551615
ROOT = pathlib.Path(__file__).resolve().parent.parent

CALLS = [
    ("judge", [B]),
    ("judge", [B[:35]]),
    ("judge", [C[:20] + [40000] + C[21:]]),
    ("gains", [4194304, T, C, [0, 4]]),
    ("gains", [0, S, B, [6]]),
    ("gains", [2**40 + 1, S, B, []]),
    ("gains", [5, S[:-1], B, []]),
    ("levels", [[0, 1, 16777216, 16777215, M, 2]]),
    ("levels", [[5, M + 1, 0]]),
    ("energy", [50, 60, 30, 120, 90, 70, 2, 0, M, T, C]),
    ("energy", [50, 150, 30, 150, 50, 70, 3, 0, M, L, C]),
    ("energy", [100, 100, 30, 70, 110, 20, 2, 0, M, D, C]),
    ("energy", [50, 60, 30, 120, 90, 70, 5, 0, M, S, B]),
    ("energy", [0, 60, 30, 120, 90, 70, 4, 0, M, S, B]),
    ("best", [50, 60, 30, 120, 90, 70, 2, 0, T, C]),
    ("best", [50, 150, 30, 150, 50, 70, 0, 0, L, C]),
    ("best", [50, 150, 30, 150, 50, 70, 2, 1, L, C]),
    ("best", [100, 100, 30, 70, 110, 20, 3, 3, D, RISING]),
    ("best", [50, 60, 30, 120, 90, 70, 0, 4, S, B]),
    ("best", [50, 60, 30, 120, 90, 70, 0, 0, make_room([(0, 0), (0, 9), (9, 9), (9, 0)]), B]),
]

# One call in a Python of its own: what it is and what it is handed come as text, what it answers goes as text.
ALONE = """
import json, sys
from wallbands import rooms
name, handed = json.loads(sys.argv[1])
print(json.dumps(getattr(rooms, name)(*handed)))
"""


def call_alone(name, handed):
    command = [sys.executable, "-c", ALONE, json.dumps([name, handed])]
    done = subprocess.run(command, cwd=ROOT, capture_output=True, text=True, check=True)
    return json.loads(done.stdout)


def call(name, handed):
    return getattr(rooms, name)(*handed)


class TogetherTest(unittest.TestCase):
    def test_in_any_order_as_alone(self):
        calls = copy.deepcopy(CALLS)
        alone = [call_alone(*one) for one in CALLS]
        choice = random.Random(13)
        places = list(range(len(calls)))
        for time in range(10):
            for place in places:
                self.assertEqual(call(*calls[place]), alone[place], calls[place])
            choice.shuffle(places)
        self.assertEqual(calls, CALLS)

    def test_every_two_one_after_another(self):
        alone = [call(*one) for one in CALLS]
        for first, second in itertools.product(range(len(CALLS)), repeat=2):
            call(*CALLS[first])
            self.assertEqual(call(*CALLS[second]), alone[second], (CALLS[first], CALLS[second]))

    def test_same_lists_for_all_calls(self):
        room, book = list(L), list(C)
        handed = [
            ("judge", [book]), ("gains", [51600, room, book, [5]]),
            ("energy", [50, 150, 30, 150, 50, 70, 2, 0, M, room, book]),
            ("best", [50, 150, 30, 150, 50, 70, 2, 1, room, book]),
        ]
        for order in itertools.permutations(handed):
            for one in order:
                call(*one)
            self.assertEqual((room, book), (L, C))
        self.assertEqual(call(*handed[2]), [0, 279377458948542, 311134431530619, 346580959628497, 386084603953040])
        self.assertEqual(call(*handed[3]), [0, 51600, 5])


class DrawnTest(unittest.TestCase):
    """Each promise on the same drawn rooms, books and points, with all paths found in another way."""

    @classmethod
    def setUpClass(cls):
        choice = random.Random(14)
        cls.drawn = []
        while len(cls.drawn) < 100:
            room, book = draw_room(choice), draw_book(choice)
            points = list_points(room)
            if points:
                s, e, most = choice.choice(points), choice.choice(points), draw_most(choice, room, 800)
                cls.drawn.append((room, book, s, e, most, list_paths(room, s, e, most)))

    def setUp(self):
        self.choice = random.Random(15)

    def test_gain_is_the_fraction_rounded_once(self):
        for room, book, s, e, most, paths in self.drawn:
            stuffs = room[5::3] + room[1:3]
            for length2, walls in paths:
                told = rooms.gains(length2, room, book, list(walls))
                self.assertEqual((told[0], len(told)), (0, 5))
                for band in range(4):
                    over, under = fraction(length2, book, [stuffs[wall] for wall in walls], band)
                    self.assertTrue(is_nearest(told[1 + band], over, under))

    def test_order_of_walls_and_the_other_way_round(self):
        for room, book, s, e, most, paths in self.drawn:
            for length2, walls in paths:
                told = {tuple(rooms.gains(length2, room, book, list(order))) for order in itertools.permutations(walls)}
                self.assertEqual(len(told), 1)
            self.assertEqual(rooms.energy(*s, *e, most, 0, M, room, book), rooms.energy(*e, *s, most, 0, M, room, book))
            for band in range(4):
                there, back = rooms.best(*s, *e, most, band, room, book), rooms.best(*e, *s, most, band, room, book)
                self.assertEqual(there[:2], back[:2])
                if paths:
                    self.assertEqual(rooms.gains(there[1], room, book, there[2:])[1 + band],
                                     rooms.gains(back[1], room, book, back[2:])[1 + band])
                    self.assertIn((back[1], tuple(reversed(back[2:]))), paths)

    def test_less_back_leaves_no_more(self):
        for room, book, s, e, most, paths in self.drawn:
            less = [self.choice.randrange(part + 1) if self.choice.randrange(3) == 0 else part for part in book]
            before = rooms.energy(*s, *e, most, 0, M, room, book)
            after = rooms.energy(*s, *e, most, 0, M, room, less)
            self.assertTrue(all(a <= b for a, b in zip(after, before)))
            for length2, walls in paths:
                before = rooms.gains(length2, room, book, list(walls))
                after = rooms.gains(length2, room, less, list(walls))
                self.assertTrue(all(a <= b for a, b in zip(after, before)))

    def test_longer_leaves_no_more_and_none_is_above_the_greatest(self):
        for room, book, s, e, most, paths in self.drawn:
            for length2, walls in paths:
                told = rooms.gains(length2, room, book, list(walls))
                self.assertLessEqual(max(told), WHOLE)
                for more in (1, 7, 1024**2):
                    longer = rooms.gains(length2 + more, room, book, list(walls))
                    self.assertTrue(all(a <= b for a, b in zip(longer, told)))

    def test_levels_of_gains(self):
        for room, book, s, e, most, paths in self.drawn:
            for path in paths[:20]:
                told = list_gains(path, room, book)
                for gain, level in zip(told, rooms.levels(told)[1:]):
                    if gain == 0:
                        self.assertEqual(level, -100000)
                    else:
                        # The level is raised by 200, that all powers are whole.
                        bounds = [10**(200 + level + more) * 2**480 for more in (0, 1)]
                        self.assertTrue(bounds[0] <= gain**20 * 10**200 < bounds[1], (gain, level))

    def test_energies_side_by_side_add_up(self):
        for room, book, s, e, most, paths in self.drawn:
            lengths = [length2 for length2, walls in paths] or [0]
            bounds = sorted([0, M] + [self.choice.choice(lengths) + self.choice.choice((0, 1)) for time in range(3)])
            pieces = [rooms.energy(*s, *e, most, *pair, room, book)[1:] for pair in itertools.pairwise(bounds)]
            whole = rooms.energy(*s, *e, most, 0, M, room, book)[1:]
            self.assertEqual([sum(band) for band in zip(*pieces)], whole)

    def test_energy_and_best_are_of_the_gains(self):
        for room, book, s, e, most, paths in self.drawn:
            told = [rooms.gains(length2, room, book, list(walls))[1:] for length2, walls in paths]
            expected = [sum(gains[band]**2 for gains in told) for band in range(4)]
            self.assertEqual(rooms.energy(*s, *e, most, 0, M, room, book), [0] + expected)
            for band in range(4):
                given = rooms.best(*s, *e, most, band, room, book)
                if paths:
                    greatest = max(gains[band] for gains in told)
                    first = [path for path, gains in zip(paths, told) if gains[band] == greatest][0]
                    self.assertEqual(given, [0, first[0], *first[1]])
                else:
                    self.assertEqual(given, [-2])

    def test_books_are_books(self):
        for room, book, s, e, most, paths in self.drawn:
            self.assertEqual(rooms.judge(book), [0])
            place = self.choice.randrange(36)
            wrong = book[:place] + [MOST + 1] + book[place + 1:]
            self.assertEqual(rooms.judge(wrong), [-6, place])
            self.assertEqual(rooms.gains(1, room, wrong, []), [-6, place])
            self.assertEqual(rooms.energy(*s, *e, most, 0, M, room, wrong), [-6, place])
            self.assertEqual(rooms.best(*s, *e, most, 0, room, wrong), [-6, place])


class InterfaceTest(unittest.TestCase):
    def test_all_calls_are_there(self):
        for name in ("judge", "gains", "levels", "energy", "best"):
            self.assertTrue(callable(getattr(rooms, name)))


if __name__ == "__main__":
    unittest.main()
