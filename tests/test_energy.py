"""Tests of energy: "The calls", its head and point 4, "Books", energy, and "The promises", 1 and 4.

Which paths there are is tested in test_paths.py.
"""

import inspect
import itertools
import random
import unittest

from tests.books import B, C, RISING
from tests.drawn import draw_book, draw_most, draw_room, list_points
from tests.handing import check_answer, check_call_by_itself
from tests.plain_gains import add_energies
from tests.plain_paths import list_paths
from tests.plans import D, L, S, T
from tests.plans import make_comb, make_room
from tests.refused import BOOKS, ROOMS, first_refusal
from wallbands.rooms import energy, gains

M = 18446744073709551615
ARGUMENTS = ["x", "y", "z", "u", "v", "t", "most", "from_length", "to_length", "room", "book"]


class EnergyTest(unittest.TestCase):
    def check(self, handed, answer):
        check_answer(self, energy(*handed), answer)


class ToldTest(EnergyTest):
    """What is told in so many words."""

    def test_arguments(self):
        self.assertEqual(list(inspect.signature(energy).parameters), ARGUMENTS)
        handed = dict(zip(ARGUMENTS, (50, 60, 30, 120, 90, 70, 1, 7400, 18000, T, C)))
        self.assertEqual(energy(**handed)[:2], [0, 2507241698380042])

    def test_nothing_lost(self):
        for most, told in ((0, 2492803286736361), (1, 6651722556815621), (2, 11915329132271704)):
            self.check((50, 60, 30, 120, 90, 70, most, 0, M, S, B), [0, told, told, told, told])

    def test_unlike_stuffs(self):
        self.check((50, 60, 30, 120, 90, 70, 1, 0, M, T, C),
                   [0, 2810296563116375, 2859548810138988, 2915230116499075, 2977340497767800])
        self.check((50, 60, 30, 120, 90, 70, 2, 0, M, T, C),
                   [0, 2846341983223920, 2908471761582594, 2980896822159002, 3064374732772225])

    def test_a_range(self):
        self.check((50, 60, 30, 120, 90, 70, 1, 7400, 18000, T, C),
                   [0, 2507241698380042, 2516265708507186, 2528899323445146, 2545142543193922])

    def test_a_corner_that_points_inwards(self):
        self.check((50, 150, 30, 150, 50, 70, 0, 0, M, L, C), [0, 0, 0, 0, 0])
        self.check((50, 150, 30, 150, 50, 70, 2, 0, M, L, C),
                   [0, 279377458948542, 311134431530619, 346580959628497, 386084603953040])

    def test_one_point(self):
        self.check((100, 100, 30, 100, 100, 30, 0, 0, 1, S, B), [0] + [18446744073709551616] * 4)
        self.check((100, 100, 30, 100, 100, 30, 0, 0, 0, S, B), [0, 0, 0, 0, 0])
        self.check((100, 100, 30, 100, 100, 30, 1, 0, M, T, C),
                   [0, 18447063684217388827, 18447115539760853014, 18447179622871961336, 18447255933548325661])

    def test_slanting_lines(self):
        self.check((100, 100, 30, 70, 110, 20, 2, 0, M, D, C),
                   [0, 17705248377684494, 17883479689447582, 18088799828193440, 18322792332334717])

    def test_refusals(self):
        for most in (5, 6, M - 1, M):
            self.check((50, 60, 30, 120, 90, 70, most, 0, M, S, B), [-1])
            self.check((0, 60, 30, 120, 90, 70, most, 0, M, S, B), [-1])
        for point in ((0, 60, 30), (200, 200, 30), (50, 60, 0), (50, 60, 100), (300, 60, 30)):
            for most in range(5):
                self.check((*point, 120, 90, 70, most, 0, M, S, B), [-3])
                self.check((120, 90, 70, *point, most, 0, M, S, B), [-3])


class GainsOfPathsTest(EnergyTest):
    def test_one_path_is_the_square_of_its_gain(self):
        s, e = (50, 60, 30), (120, 90, 70)
        for book in (B, C, RISING):
            for length2, walls in ((7400, []), (29000, [0]), (31400, [3]), (55400, [1]), (69000, [2])):
                told = gains(length2, T, book, walls)[1:]
                self.check((*s, *e, 1, length2, length2 + 1, T, book), [0] + [gain**2 for gain in told])
            # Two paths have one length, by the floor and by the ceiling.
            floor, ceiling = (gains(15800, T, book, [wall])[1:] for wall in (4, 5))
            both = [gain**2 + other**2 for gain, other in zip(floor, ceiling)]
            self.check((*s, *e, 1, 15800, 15801, T, book), [0] + both)

    def test_each_gain_is_rounded_before_it_is_squared(self):
        # By each of the four sides the fraction is 21474836.48, by floor and ceiling 42949672.96.
        self.check((100, 100, 50, 100, 100, 50, 1, 40000, 40001, S, B), [0] + [4 * 21474836**2] * 4)
        self.check((100, 100, 50, 100, 100, 50, 1, 10000, 10001, S, B), [0] + [2 * 42949673**2] * 4)

    def test_air(self):
        room = make_room([(0, 0), (4095, 0), (4095, 4095), (0, 4095)], [0, 1, 2, 3], (4095, 4, 5))
        book = [32768] * 32 + [0, 16384, 32767, 32768]
        self.check((1000, 1000, 9, 2023, 1000, 9, 0, 0, M, room, book), [0] + [4198404**2] * 4)
        # From 1,024 on the air keeps some of it, of band 0 all.
        self.check((1000, 1000, 9, 2024, 1000, 9, 0, 0, M, room, book), [0, 0, 2**42, (2**22 - 2**7)**2, 2**44])
        for s, e in (((1, 1, 1), (4094, 4094, 4094)), ((1000, 1, 77), (1000, 4094, 99))):
            paths = list_paths(room, s, e, 2)
            self.check((*s, *e, 2, 0, M, room, book), [0] + add_energies(paths, room, book))

    def test_nothing_comes_back(self):
        self.check((50, 60, 30, 120, 90, 70, 4, 0, M, S, [0] * 36), energy(50, 60, 30, 120, 90, 70, 0, 0, M, S, B))
        self.check((50, 150, 30, 150, 50, 70, 4, 0, M, L, [0] * 36), [0, 0, 0, 0, 0])

    def test_more_turns_leave_no_less(self):
        for s, e, room in (((50, 60, 30), (120, 90, 70), T), ((50, 150, 30), (150, 50, 70), L)):
            told = [energy(*s, *e, most, 0, M, room, RISING) for most in range(5)]
            for fewer, more in itertools.pairwise(told):
                self.assertTrue(all(a < b for a, b in zip(fewer[1:], more[1:])))


class RangeTest(EnergyTest):
    WAYS = (
        ((50, 60, 30), (120, 90, 70), 2, T, C),
        ((100, 100, 30), (100, 100, 30), 2, T, RISING),
        ((50, 150, 30), (150, 50, 70), 3, L, C),
        ((100, 100, 30), (70, 110, 20), 2, D, RISING),
    )

    def test_about_each_length(self):
        for s, e, most, room, book in self.WAYS:
            paths = list_paths(room, s, e, most)
            for length2 in sorted({path[0] for path in paths}):
                of_length = [path for path in paths if path[0] == length2]
                answer = [0] + add_energies(of_length, room, book)
                self.check((*s, *e, most, length2, length2 + 1, room, book), answer)
                self.check((*s, *e, most, length2, length2, room, book), [0, 0, 0, 0, 0])
                self.check((*s, *e, most, length2 + 1, length2, room, book), [0, 0, 0, 0, 0])
                shorter = [0] + add_energies([path for path in paths if path[0] < length2], room, book)
                longer = [0] + add_energies([path for path in paths if path[0] > length2], room, book)
                self.check((*s, *e, most, 0, length2, room, book), shorter)
                self.check((*s, *e, most, length2 + 1, M, room, book), longer)
                if length2 > 0:
                    self.check((*s, *e, most, length2 - 1, length2, room, book),
                               [0] + add_energies([path for path in paths if path[0] == length2 - 1], room, book))

    def test_no_range(self):
        for s, e, most, room, book in self.WAYS:
            for bounds in ((0, 0), (7400, 7400), (M, M), (M, 0), (7401, 7400), (20000, 100), (M, M - 1)):
                self.check((*s, *e, most, *bounds, room, book), [0, 0, 0, 0, 0])

    def test_beyond_all_lengths(self):
        for s, e, most, room, book in self.WAYS:
            self.check((*s, *e, most, 10**10, M, room, book), [0, 0, 0, 0, 0])
            whole = energy(*s, *e, most, 0, M, room, book)
            self.check((*s, *e, most, 0, 10**10, room, book), whole)

    def test_side_by_side_they_add_up(self):
        choice = random.Random(8)
        for s, e, most, room, book in self.WAYS:
            lengths = [path[0] for path in list_paths(room, s, e, most)]
            whole = energy(*s, *e, most, 0, M, room, book)[1:]
            for time in range(20):
                among = [choice.choice(lengths) + choice.choice((-1, 0, 1)) for bound in range(4)]
                bounds = sorted([0] + [max(bound, 0) for bound in among] + [M])
                pieces = [energy(*s, *e, most, *pair, room, book)[1:] for pair in itertools.pairwise(bounds)]
                self.assertEqual([sum(band) for band in zip(*pieces)], whole)
                first, second = pieces[1], pieces[2]
                both = energy(*s, *e, most, bounds[1], bounds[3], room, book)[1:]
                self.assertEqual([a + b for a, b in zip(first, second)], both)


class DrawnTest(EnergyTest):
    def draw(self, seed, times):
        choice = random.Random(seed)
        for time in range(times):
            room, book = draw_room(choice), draw_book(choice)
            points = list_points(room)
            if points:
                yield choice, room, book, choice.choice(points), choice.choice(points), draw_most(choice, room, 1000)

    def test_some_range(self):
        for choice, room, book, s, e, most in self.draw(9, 100):
            bounds = (choice.randrange(200), choice.randrange(1000))
            paths = [path for path in list_paths(room, s, e, most) if path[0] in range(*bounds)]
            self.check((*s, *e, most, *bounds, room, book), [0] + add_energies(paths, room, book))

    def test_the_other_way_round(self):
        for choice, room, book, s, e, most in self.draw(10, 200):
            bounds = (choice.randrange(50), choice.randrange(50, 1000))
            self.assertEqual(energy(*s, *e, most, *bounds, room, book), energy(*e, *s, most, *bounds, room, book))

    def test_two_ranges_add_up(self):
        for choice, room, book, s, e, most in self.draw(11, 200):
            bounds = sorted(choice.randrange(500) for time in range(3))
            first, second, both = [
                energy(*s, *e, most, bounds[a], bounds[b], room, book)[1:] for a, b in ((0, 1), (1, 2), (0, 2))
            ]
            self.assertEqual([a + b for a, b in zip(first, second)], both)


class OrderTest(EnergyTest):
    """The refusals in their order, whatever else is to be refused."""

    MOST = [(5, [-1]), (M, [-1]), (0, None), (4, None)]
    POINTS = [
        ((0, 60, 30), [-3]), ((200, 0, 30), [-3]), ((50, 60, 0), [-3]), ((50, 60, 100), [-3]), ((-50, 60, 30), [-3]),
        ((9223372036854775807, 60, 30), [-3]), ((50, 60, -9223372036854775808), [-3]), ((50, 60, 30), None),
    ]

    def test_every_some_together(self):
        for room, book, most, s, e in itertools.product(ROOMS, BOOKS, self.MOST, self.POINTS, self.POINTS):
            # Of two points that are not inside at once some are enough.
            if s[1] and e[1] and s[0] != e[0]:
                continue
            refusal = first_refusal(room, book, most, s, e)
            given = energy(*s[0], *e[0], most[0], 5, 100000, room[0], book[0])
            if refusal:
                check_answer(self, given, refusal)
            else:
                self.assertEqual((len(given), given[0]), (5, 0))

    def test_refused_though_no_path_is_asked_for(self):
        for bounds in ((0, 0), (M, M), (M, 0)):
            self.check((0, 60, 30, 120, 90, 70, 0, *bounds, S, B), [-3])
            self.check((50, 60, 30, 120, 90, 70, 5, *bounds, S, B), [-1])
            self.check((50, 60, 30, 120, 90, 70, 0, *bounds, S, []), [-6, 0])
            self.check((50, 60, 30, 120, 90, 70, 0, *bounds, [], B), [-5, 1, 0])

    def test_most_has_no_bound_with_many_walls(self):
        room = make_room(make_comb(64))
        for most in (5, 20000, M):
            self.check((5, 60, 30, 120, 70, 70, most, 0, M, room, B), [-1])
            self.check((5, 60, 30, 120, 70, 70, most, 0, M, room[:-1], B), [-5, 1, 0])


class CallByItselfTest(unittest.TestCase):
    def test_by_itself(self):
        check_call_by_itself(self, energy, [
            (50, 60, 30, 120, 90, 70, 2, 0, M, T, C),
            (50, 60, 30, 120, 90, 70, 4, 0, M, S, B),
            (50, 150, 30, 150, 50, 70, 2, 0, M, L, C),
            (100, 100, 30, 70, 110, 20, 3, 100, 90000, D, C),
            (100, 100, 30, 100, 100, 30, 0, 0, 1, S, B),
            (50, 60, 30, 120, 90, 70, 5, 0, M, S, B),
            (50, 60, 30, 0, 90, 70, 4, 0, M, S, B),
            (50, 60, 30, 120, 90, 70, 1, 0, M, S, B[:35]),
            (50, 60, 30, 120, 90, 70, 1, 0, M, S[:-1], B),
            (50, 60, 30, 120, 90, 70, 1, 0, M, make_room([(0, 0), (0, 200), (200, 200), (200, 0)]), B),
            (5, 60, 30, 120, 70, 70, 2, 0, M, make_room(make_comb(64)), C),
        ])

    def test_same_lists_are_looked_at_anew(self):
        room, book = list(S), list(B)
        handed = (100, 100, 50, 100, 100, 50, 1, 40000, 40001, room, book)
        part = 21474836**2
        self.assertEqual(energy(*handed), [0] + [4 * part] * 4)
        book[0] = 0
        self.assertEqual(energy(*handed), [0, 0] + [4 * part] * 3)
        room[5] = 1
        self.assertEqual(energy(*handed), [0, part] + [4 * part] * 3)
        room[12], room[3] = 10, 10
        room[6], room[9] = 190, 190
        self.assertEqual(energy(*handed), [0, part] + [2 * part] * 3)
        book[3] = 32769
        self.assertEqual(energy(*handed), [-6, 3])
        room[0] = 0
        self.assertEqual(energy(*handed), [-5, 2, 0])


if __name__ == "__main__":
    unittest.main()
