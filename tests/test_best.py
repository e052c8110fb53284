"""Tests of best: "The calls", its head and point 5, and "Paths", in order."""

import inspect
import itertools
import random
import unittest

from tests.books import B, C, RISING, make_book
from tests.drawn import draw_book, draw_most, draw_room, list_points
from tests.handing import check_answer, check_call_by_itself
from tests.plain_gains import find_stuffs, nearest_gain
from tests.plain_paths import PlainRoom, list_paths
from tests.plans import ANGLE, D, L, S, SLAB, SQUARE, T
from tests.plans import begin_at, make_comb, make_room, make_saw
from tests.refused import BOOKS, ROOMS, first_refusal
from wallbands.rooms import best, gains

M = 18446744073709551615
NOTHING = [0] * 36
ARGUMENTS = ["x", "y", "z", "u", "v", "t", "most", "band", "room", "book"]
# An angle so small that paths of unlike turns may well be of one length.
BEND = [(21, 9), (9, 9), (9, 15), (3, 15), (3, 3), (21, 3)]


def list_best(room, s, e, most, band, book):
    """All paths with the greatest gain, in order."""
    paths = list_paths(room, s, e, most)
    told = [nearest_gain(length2, book, find_stuffs(room, walls), band) for length2, walls in paths]
    return [path for path, gain in zip(paths, told) if gain == max(told)]


class BestTest(unittest.TestCase):
    def check(self, handed, answer):
        check_answer(self, best(*handed), answer)

    def check_plainly(self, s, e, most, band, room, book):
        """Hold it against all paths; all that have the greatest gain are given back."""
        paths = list_best(room, s, e, most, band, book)
        answer = [0, paths[0][0], *paths[0][1]] if paths else [-2]
        self.check((*s, *e, most, band, room, book), answer)
        return paths

    def check_best(self, s, e, most, room, book, answer):
        """The answer in all bands, held against all paths, too."""
        for band in range(4):
            self.check((*s, *e, most, band, room, book), answer)
            self.check_plainly(s, e, most, band, room, book)


class ToldTest(BestTest):
    """What is told in so many words."""

    def test_arguments(self):
        self.assertEqual(list(inspect.signature(best).parameters), ARGUMENTS)
        handed = dict(zip(ARGUMENTS, (50, 150, 30, 150, 50, 70, 2, 1, L, C)))
        self.assertEqual(best(**handed), [0, 51600, 5])

    def test_straight(self):
        for band in range(4):
            self.check((50, 60, 30, 120, 90, 70, 2, band, T, C), [0, 7400])

    def test_a_corner_that_points_inwards(self):
        self.check((50, 150, 30, 150, 50, 70, 0, 0, L, C), [-2])
        self.check((50, 150, 30, 150, 50, 70, 1, 0, L, C), [0, 51600, 5])
        self.check((50, 150, 30, 150, 50, 70, 2, 1, L, C), [0, 51600, 5])

    def test_one_point(self):
        self.check((100, 100, 50, 100, 100, 50, 1, 0, S, NOTHING), [0, 0])

    def test_refusals(self):
        for most, band in ((5, 0), (0, 4), (5, 4), (M, 0), (4, M), (M, M), (5, 3), (4, 4)):
            self.check((50, 60, 30, 120, 90, 70, most, band, S, B), [-1])
            self.check((0, 60, 30, 120, 90, 70, most, band, S, B), [-1])
        for point in ((0, 60, 30), (200, 200, 30), (50, 60, 0), (50, 60, 100), (300, 60, 30)):
            for most, band in itertools.product(range(5), range(4)):
                self.check((*point, 120, 90, 70, most, band, S, B), [-3])
                self.check((120, 90, 70, *point, most, band, S, B), [-3])
                self.check((*point, *point, most, band, S, B), [-3])


class RangesTest(BestTest):
    def test_most_and_band_at_their_edges(self):
        for most, band in itertools.product((0, 1, 2, 3, 4, 5, M - 1, M), (0, 1, 2, 3, 4, 5, M - 1, M)):
            if most > 4 or band > 3:
                self.check((50, 150, 30, 150, 50, 70, most, band, L, C), [-1])
            else:
                self.check_plainly((50, 150, 30), (150, 50, 70), most, band, L, C)

    def test_as_many_walls_as_may_be(self):
        for corners, most in ((SQUARE, 4), (make_saw(24), 3), (make_comb(64), 2), (make_saw(64), 1)):
            stuffs = [place % 8 for place in range(len(corners))]
            room = make_room(corners, stuffs, (90, 6, 7))
            self.assertLessEqual((len(corners) + 2)**most, 20000)
            for book in (B, RISING):
                self.check_plainly((15, 60, 30), (52, 81, 61), most, 2, room, book)


class TurnsTest(BestTest):
    """Rooms where s and e don't see one another."""

    SLAB_ROOM = make_room(SLAB, list(range(8)), (50, 3, 5))

    def test_no_turn_if_they_do(self):
        for book in (B, C, RISING, NOTHING):
            self.check_best((50, 60, 30), (120, 90, 70), 3, T, book, [0, 7400])
            self.check_best((80, 20, 25), (80, 80, 25), 3, self.SLAB_ROOM, book, [0, 3600])

    def test_one_turn(self):
        self.check_best((20, 20, 25), (20, 90, 25), 2, self.SLAB_ROOM, B, [0, 30500, 1])
        self.check_best((10, 140, 50), (270, 90, 50), 2, make_room(ANGLE), B, [0, 120500, 0])

    def test_two_turns(self):
        self.check_best((20, 10, 25), (90, 90, 25), 2, self.SLAB_ROOM, B, [0, 18100, 0, 1])
        self.check_best((20, 80, 25), (80, 30, 25), 2, self.SLAB_ROOM, NOTHING, [0, 18100, 2, 1])
        self.check_best((10, 170, 50), (290, 30, 50), 2, make_room(ANGLE), RISING, [0, 130000, 5, 0])
        # From there back it's the other way round.
        self.check_best((290, 30, 50), (10, 170, 50), 2, make_room(ANGLE), RISING, [0, 130000, 0, 5])

    def test_three_turns(self):
        room = make_room(SLAB, list(range(8)), (100, 3, 5))
        for book in (B, NOTHING):
            self.check_best((23, 72, 25), (3, 29, 65), 3, room, book, [0, 56525, 2, 1, 0])
        self.check_plainly((23, 72, 25), (3, 29, 65), 3, 0, room, RISING)
        gap = make_room(make_comb(8), list(range(8)), (30, 3, 5))
        self.check_best((1, 76, 12), (24, 11, 5), 3, gap, B, [0, 7299, 5, 3, 5])

    def test_no_path(self):
        for most in range(3):
            self.check_best((23, 72, 25), (3, 29, 65), most, make_room(SLAB), B, [-2])
        self.check_best((20, 70, 25), (30, 20, 10), 2, self.SLAB_ROOM, C, [-2])
        for most in range(2):
            self.check_best((10, 170, 50), (290, 30, 50), most, make_room(ANGLE), NOTHING, [-2])
        # Two rooms with a long narrow way between them.
        room = make_room([(0, 0), (100, 0), (100, 50), (103, 50), (103, 0), (200, 0), (200, 53), (97, 53), (97, 50),
                          (90, 50), (90, 90), (0, 90)])
        for most in range(4):
            self.check_best((50, 20, 30), (150, 20, 70), most, room, B, [-2])


class GreaterGainTest(BestTest):
    """A longer path has a greater gain than a shorter one."""

    def test_stuffs_that_give_back_little(self):
        # By wall 5 it's 51,600, by wall 0 as long; whichever gives back more is told.
        s, e = (50, 150, 30), (150, 50, 70)
        self.assertEqual(list_paths(L, s, e, 1), [(51600, (0,)), (51600, (5,))])
        for stuff, answer in ((2, [0, 51600, 5]), (7, [0, 51600, 0])):
            book = make_book([1 if number == stuff else 32768 for number in range(8)], 32768)
            self.check_best(s, e, 1, L, book, answer)

    def test_a_longer_one_is_told(self):
        s, e = (40, 160, 30), (150, 60, 70)
        self.assertEqual(list_paths(L, s, e, 1), [(47700, (5,)), (62100, (0,))])
        self.check_best(s, e, 1, L, B, [0, 47700, 5])
        book = make_book([32768] * 7 + [16384], 32768)
        self.check_best(s, e, 1, L, book, [0, 62100, 0])
        # About as much as the longer way costs.
        for part in range(28700, 28740):
            self.check_plainly(s, e, 1, 0, L, make_book([32768] * 7 + [part], 32768))

    def test_two_turns_may_leave_more_than_one(self):
        room = make_room(BEND, [0, 1, 2, 3, 4, 5], (7, 6, 7))
        s, e = (8, 11, 6), (15, 7, 5)
        self.check_best(s, e, 2, room, B, [0, 306, 3])
        self.check_best(s, e, 2, room, make_book([32768] * 3 + [32767] + [32768] * 4, 32768), [0, 306, 4, 0])
        self.check_best(s, e, 1, room, make_book([32768] * 3 + [32767] + [32768] * 4, 32768), [0, 306, 3])
        for parts in itertools.product((1, 32768), repeat=6):
            self.check_plainly(s, e, 3, 1, room, make_book([*parts, 20000, 20000], 32768))

    def test_band_by_band(self):
        s, e = (40, 160, 30), (150, 60, 70)
        book = list(B)
        book[4 * 7 + 1] = 100
        book[4 * 7 + 3] = 0
        for band, answer in ((0, [0, 47700, 5]), (1, [0, 62100, 0]), (2, [0, 47700, 5]), (3, [0, 62100, 0])):
            self.check((*s, *e, 1, band, L, book), answer)

    def test_air(self):
        # By the curtain it's below 1,024, by the wall above: there the air keeps some.
        room = make_room([(0, 0), (1200, 0), (1200, 400), (400, 400), (400, 800), (0, 800)], [0, 1, 1, 1, 1, 2],
                         (100, 0, 0))
        s, e = (300, 700, 50), (500, 350, 50)
        self.assertEqual(list_paths(room, s, e, 1), [(800**2 + 350**2, (5,)), (200**2 + 1050**2, (0,))])
        curtain = [32768] * 8 + [24000] * 4 + [32768] * 20
        self.check_best(s, e, 1, room, curtain + [32768] * 4, [0, 200**2 + 1050**2, 0])
        self.check_best(s, e, 1, room, curtain + [20000] * 4, [0, 800**2 + 350**2, 5])
        self.check_best(s, e, 1, room, curtain + [0] * 4, [0, 800**2 + 350**2, 5])
        self.assertEqual(gains(200**2 + 1050**2, room, curtain + [0] * 4, [0]), [0, 0, 0, 0, 0])


class OrderOfPathsTest(BestTest):
    """Of paths with one gain the first in order is told."""

    def check_first(self, corners, head, s, e, most, book, tied):
        """However the corners are numbered; tied are the paths with the greatest gain, by walls of the plan."""
        count = len(corners)
        for number in range(count):
            room = make_room(begin_at(corners, number), head=head)
            renamed = [
                (length2, tuple(wall if wall >= count else (wall - number) % count for wall in walls))
                for length2, walls in tied
            ]
            first = min(renamed, key=lambda path: (path[0], len(path[1]), path[1]))
            self.check_best(s, e, most, room, book, [0, first[0], *first[1]])
            self.assertEqual(sorted(list_best(room, s, e, most, 0, book)), sorted(renamed))

    def test_as_many_turns_and_unlike_walls(self):
        self.check_first(ANGLE, (100, 0, 0), (60, 150, 50), (150, 60, 50), 2, B, [(52200, (0,)), (52200, (5,))])
        self.check_first(ANGLE, (100, 0, 0), (20, 190, 50), (290, 80, 50), 2, B, [(169000, (0, 2)), (169000, (5, 0))])

    def test_unlike_numbers_of_turns(self):
        self.check_first(BEND, (7, 0, 0), (8, 11, 6), (15, 7, 5), 3, B, [(306, (3,)), (306, (4, 0))])
        corners = [(3, 3), (6, 3), (8, 1), (9, 1), (11, 3), (7, 3), (3, 7)]
        self.check_first(corners, (2, 0, 0), (4, 5, 1), (9, 2, 1), 3, B, [(58, (6,)), (58, (5, 1, 3))])
        corners = [(12, 3), (7, 3), (7, 7), (3, 7), (3, 3), (6, 3), (9, 0)]
        self.check_first(corners, (8, 0, 0), (6, 6, 4), (9, 1, 6), 3, B, [(134, (2, 3)), (134, (5, 6, 0))])

    def test_gain_of_0_everywhere(self):
        for s, e, most, room in (
            ((50, 60, 30), (120, 90, 70), 3, T), ((50, 150, 30), (150, 50, 70), 3, L),
            ((10, 170, 50), (290, 30, 50), 3, make_room(ANGLE)),
            ((8, 11, 6), (15, 7, 5), 3, make_room(BEND, head=(7, 0, 0))),
        ):
            self.check_plainly(s, e, most, 0, room, NOTHING)
        tied = list_best(L, (40, 160, 30), (150, 60, 70), 3, 0, NOTHING)
        self.assertGreater(len({length2 for length2, walls in tied}), 5)
        self.check((40, 160, 30, 150, 60, 70, 3, 0, L, NOTHING), [0, 47700, 5])
        # The air alone can keep all of it, of a straight leg too.
        room = make_room([(0, 0), (2000, 0), (2000, 2000), (0, 2000)])
        self.check((100, 100, 50, 1900, 100, 50, 2, 0, room, [32768] * 32 + [0] * 4), [0, 1800**2])

    def test_gains_that_round_to_one_number(self):
        # One turn leaves 131,072 over the length, some 41 here: a little more of length isn't seen.
        room = make_room([(0, 0), (4000, 0), (4000, 1500), (1500, 1500), (1500, 4000), (0, 4000)])
        book = make_book([1] * 8, 32768)
        seen = {}
        for s, e in (((1000, 2000, 50), (2000, 1000, 50)), ((1000, 2010, 50), (2000, 1000, 50)),
                     ((1000, 2001, 50), (2000, 1000, 50)), ((1000, 2000, 50), (2001, 1000, 50))):
            tied = self.check_plainly(s, e, 2, 0, room, book)
            seen[len({length2 for length2, walls in tied})] = True
        self.assertEqual(sorted(seen), [1, 2])

    def test_a_greater_gain_comes_before_the_order(self):
        # As long and with as many turns: the later wall is told if it gives back more by the least there is.
        room = make_room(ANGLE, [0, 1, 2, 3, 4, 5], (100, 6, 7))
        for first, second, answer in ((32768, 32768, 0), (32767, 32768, 5), (32768, 32767, 0), (0, 1, 5)):
            book = make_book([first, 0, 0, 0, 0, second, 0, 0], 32768)
            self.check_best((60, 150, 50), (150, 60, 50), 1, room, book, [0, 52200, answer])


class DrawnTest(BestTest):
    def test_many_rooms(self):
        choice = random.Random(12)
        seen = {}
        for time in range(300):
            room = draw_room(choice, bumps=6)
            book = choice.choice((B, NOTHING, RISING, make_book([1] * 8, 1), draw_book(choice), draw_book(choice)))
            points = list_points(room)
            if points:
                s = choice.choice(points)
                # Where s and e see one another there's mostly nothing to choose.
                plain = PlainRoom(room)
                hidden = [point for point in choice.sample(points, min(20, len(points))) if not plain.is_clear(s, point)]
                e = choice.choice(hidden or points)
                band = choice.randrange(4)
                tied = self.check_plainly(s, e, draw_most(choice, room, 1500), band, room, book)
                self.note_kinds(seen, tied)
        wanted = ["0 turns", "1 turns", "2 turns", "no path", "unlike lengths", "unlike walls"]
        self.assertEqual([kind for kind in wanted if kind not in seen], [])

    def note_kinds(self, seen, tied):
        """Which kinds of answers there were, that none is left out."""
        if not tied:
            seen["no path"] = True
            return
        seen[f"{len(tied[0][1])} turns"] = True
        alike = [path for path in tied if path[0] == tied[0][0]]
        if len(alike) < len(tied):
            seen["unlike lengths"] = True
        if len({walls for length2, walls in alike if len(walls) == len(alike[0][1])}) > 1:
            seen["unlike walls"] = True


class OrderTest(BestTest):
    """The refusals in their order, whatever else is to be refused."""

    RANGES = [((5, 0), [-1]), ((0, 4), [-1]), ((M, M), [-1]), ((4, M), [-1]), ((0, 0), None), ((4, 3), None)]
    POINTS = [((0, 60, 30), [-3]), ((200, 0, 30), [-3]), ((50, 60, 100), [-3]), ((50, 60, 30), None)]

    def test_every_some_together(self):
        for room, book, ranges, s, e in itertools.product(ROOMS, BOOKS, self.RANGES, self.POINTS, self.POINTS):
            refusal = first_refusal(room, book, ranges, s, e)
            given = best(*s[0], *e[0], *ranges[0], room[0], book[0])
            check_answer(self, given, refusal or [0, 0])

    def test_no_path_comes_last(self):
        s, e, outside = (50, 150, 30), (150, 50, 70), (150, 150, 30)
        for book, most, point, answer in (
            (C, 0, s, [-2]), (C, 0, outside, [-3]), (C, 5, s, [-1]), (C, 5, outside, [-1]),
            (C[:30], 0, s, [-6, 30]), (C[:30], 5, outside, [-6, 30]),
        ):
            self.check((*point, *e, most, 0, L, book), answer)
            self.check((*e, *point, most, 0, L, book), answer)
            self.check((*point, *e, most, 0, L[:-1], book), [-5, 1, 0])


class CallByItselfTest(unittest.TestCase):
    def test_by_itself(self):
        check_call_by_itself(self, best, [
            (50, 60, 30, 120, 90, 70, 2, 0, T, C),
            (50, 150, 30, 150, 50, 70, 0, 0, L, C),
            (50, 150, 30, 150, 50, 70, 4, 3, L, C),
            (100, 100, 30, 70, 110, 20, 3, 1, D, RISING),
            (23, 72, 25, 3, 29, 65, 3, 2, make_room(SLAB), B),
            (50, 60, 30, 120, 90, 70, 5, 0, S, B),
            (50, 60, 30, 120, 90, 70, 4, 4, S, B),
            (50, 60, 30, 0, 90, 70, 4, 0, S, B),
            (50, 60, 30, 120, 90, 70, 1, 0, S, B[:35]),
            (50, 60, 30, 120, 90, 70, 1, 0, S[:-1], B),
            (5, 60, 30, 120, 70, 70, 2, 0, make_room(make_comb(64)), C),
        ])

    def test_same_lists_are_looked_at_anew(self):
        room, book = list(L), list(B)
        handed = (40, 160, 30, 150, 60, 70, 1, 0, room, book)
        self.assertEqual(best(*handed), [0, 47700, 5])
        book[28] = 100
        self.assertEqual(best(*handed), [0, 62100, 0])
        room[20] = 0
        self.assertEqual(best(*handed), [0, 47700, 5])
        room[12], room[15] = 160, 160
        self.assertEqual(best(*handed), [0, 110**2 + 100**2 + 40**2])
        book[0] = 32769
        self.assertEqual(best(*handed), [-6, 0])
        room[0] = 0
        self.assertEqual(best(*handed), [-5, 2, 0])


if __name__ == "__main__":
    unittest.main()
