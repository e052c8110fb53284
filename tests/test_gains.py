"""Tests of gains: "Books", "The calls", its head and point 2, and "The promises", 1 and 2."""

import inspect
import itertools
import random
import unittest

from tests.books import B, C, make_book
from tests.handing import check_answer, check_call_by_itself
from tests.plain_gains import MOST, WHOLE, fraction, is_nearest
from tests.plans import ANGLE, OCTAGON, S, SQUARE, T, TRIANGLE
from tests.plans import make_comb, make_room, make_saw
from tests.refused import BOOKS, ROOMS, first_refusal
from wallbands.rooms import gains

# Each stuff has one wall: the sides 0 to 5, the floor 6, the ceiling 7; its stuff is not its number.
EACH_STUFF = make_room(ANGLE, [7, 6, 5, 4, 3, 2], (100, 1, 0))
STUFF_OF_WALL = [7, 6, 5, 4, 3, 2, 1, 0]

LONGEST = 2**40
LARGEST = 18446744073709551615
LENGTHS = sorted(
    {0, 1, 2, 3, 4, 5, 7, 99, 65535, 65536, 65537, LONGEST - 1, LONGEST}
    | {(1024 * k)**2 + d for k in (1, 2, 3, 4, 31, 1023) for d in (-1, 0, 1)}
    | {1025**2, 2047**2, 3 * 1024**2, 10**6, 10**9, 10**12}
)


class GainsTest(unittest.TestCase):
    def check(self, length2, room, book, walls, answer):
        check_answer(self, gains(length2, room, book, walls), answer)

    def check_fraction(self, length2, room, book, walls, stuffs):
        """Hold each gain against the fraction; stuffs are those of the walls."""
        given = gains(length2, room, book, walls)
        self.assertEqual((len(given), given[0]), (5, 0))
        for band in range(4):
            over, under = fraction(length2, book, stuffs, band)
            self.assertTrue(is_nearest(given[1 + band], over, under), (length2, walls, band, given))
        return given[1:]


class ToldTest(GainsTest):
    """What is told in so many words."""

    def test_arguments(self):
        self.assertEqual(list(inspect.signature(gains).parameters), ["length2", "room", "book", "walls"])
        self.assertEqual(gains(length2=4194304, room=T, book=C, walls=[0, 4]), [0, 0, 12279, 28966, 50647])

    def test_nothing_lost(self):
        self.check(0, S, B, [], [0] + [4294967296] * 4)
        self.check(1, S, B, [], [0] + [4294967296] * 4)
        self.check(2, S, B, [], [0] + [3037000500] * 4)
        self.check(65536, S, B, [], [0] + [16777216] * 4)
        self.check(65536, S, B, [0, 3, 4, 5], [0] + [16777216] * 4)

    def test_book_in_order(self):
        self.check(1048575, T, C, [], [0, 4194306, 4194306, 4194306, 4194306])
        self.check(1048576, T, C, [], [0, 3731456, 3848064, 3964672, 4081280])
        self.check(4194304, T, C, [0, 4], [0, 0, 12279, 28966, 50647])

    def test_longest(self):
        self.check(1099511627776, S, B, [], [0, 4096, 4096, 4096, 4096])
        self.check(1099511627777, S, B, [], [-4])
        self.check(18446744073709551615, S, B, [], [-4])

    def test_walls(self):
        for count in range(5):
            for wall in range(6):
                self.check(0, S, B, [wall] * count, [0] + [4294967296] * 4)
        self.check(0, S, B, [6], [-1])
        self.check(1099511627777, S, B, [0, 0, 0, 0, 0], [-1])


class WallsTest(GainsTest):
    def test_each_wall_has_its_stuff(self):
        for wall, stuff in enumerate(STUFF_OF_WALL):
            book = [4 * place for place in range(36)]
            self.check(0, EACH_STUFF, book, [wall], [0] + [book[4 * stuff + band] * 2**17 for band in range(4)])
            self.check_fraction(0, EACH_STUFF, C, [wall], [stuff])

    def test_one_wall_and_four_times_the_same(self):
        for wall, stuff in enumerate(STUFF_OF_WALL):
            for count in range(5):
                self.check_fraction(2, EACH_STUFF, C, [wall] * count, [stuff] * count)

    def test_rooms_of_many_corners(self):
        for corners in (TRIANGLE, SQUARE, OCTAGON, make_saw(64), make_comb(64)):
            n = len(corners)
            stuffs = [(5 * number + number // 8) % 8 for number in range(n)]
            room = make_room(corners, stuffs, (100, 7, 6))
            for wall in range(n + 2):
                self.check_fraction(3, room, C, [wall], [(stuffs + [7, 6])[wall]])
            for wall in (n + 2, n + 3, 10 * n, LARGEST):
                self.check(3, room, C, [wall], [-1])

    def test_last_walls_are_floor_and_ceiling(self):
        book = make_book([1000, 2000, 3000, 4000, 5000, 6000, 7000, 8000], MOST)
        self.check(1, make_room(TRIANGLE, [0, 1, 2], (5, 6, 7)), book, [3], [0] + [7000 * 2**17] * 4)
        self.check(1, make_room(TRIANGLE, [0, 1, 2], (5, 6, 7)), book, [4], [0] + [8000 * 2**17] * 4)

    def test_walls_that_are_none(self):
        for wall in (6, 7, 64, 66, LARGEST):
            for walls in ([wall], [0, wall], [wall, 0], [0, 1, 2, wall], [0, wall, 2, 3], [wall] * 4):
                self.check(0, S, B, walls, [-1])

    def test_too_many_walls(self):
        for count in range(5, 21):
            for wall in (0, 4, 5, 6, LARGEST):
                self.check(0, S, B, [wall] * count, [-1])

    def test_order_does_not_matter(self):
        for walls in ([0, 1], [2, 6, 7], [0, 3, 5, 7], [1, 1, 6, 4], [7, 7, 2, 2]):
            for length2 in (0, 2, 1048576, 5 * 1048576 + 3):
                expected = gains(length2, EACH_STUFF, C, walls)
                for order in itertools.permutations(walls):
                    self.assertEqual(gains(length2, EACH_STUFF, C, list(order)), expected)

    def test_every_two_walls_the_other_way_round(self):
        for first, second in itertools.product(range(8), repeat=2):
            stuffs = [STUFF_OF_WALL[first], STUFF_OF_WALL[second]]
            there = self.check_fraction(3000000, EACH_STUFF, C, [first, second], stuffs)
            self.assertEqual(gains(3000000, EACH_STUFF, C, [second, first]), [0] + there)


class LengthTest(GainsTest):
    def test_each_length_against_the_fraction(self):
        walls = [0, 3, 6, 7]
        for length2 in LENGTHS:
            for count in range(5):
                for book in (B, C):
                    stuffs = [STUFF_OF_WALL[wall] for wall in walls[:count]]
                    self.check_fraction(length2, EACH_STUFF, book, walls[:count], stuffs)

    def test_length_below_one_is_one(self):
        for walls in ([], [0], [1, 7]):
            self.assertEqual(gains(0, EACH_STUFF, C, walls), gains(1, EACH_STUFF, C, walls))
        self.assertLess(gains(2, S, B, [])[1], gains(1, S, B, [])[1])

    def test_air_as_often_as_there_are_whole_steps(self):
        # The air leaves a half each time, so that how often is seen at once.
        book = make_book([MOST] * 8, MOST // 2)
        for steps in (1, 2, 4, 8, 16):
            answer = 2**22 // steps // 2**steps
            self.check((1024 * steps)**2, S, book, [], [0] + [answer] * 4)
            self.assertGreaterEqual(gains((1024 * steps)**2 - 1, S, book, [])[1], 2 * answer)
        for length2 in (1024**2 - 1, 2048**2 - 1, 3072**2 - 1, 1024**2, 2048**2, 3072**2):
            self.check_fraction(length2, S, book, [], [])

    def test_air_of_each_band(self):
        book = [MOST] * 32 + [0, 1, MOST - 1, MOST]
        self.check(1024**2 - 1, S, book, [], [0] + [4194306] * 4)
        self.check(1024**2, S, book, [], [0, 0, 128, 4194176, 4194304])
        self.check(2048**2, S, book, [], [0, 0, 0, 2097024, 2097152])
        self.check_fraction(LONGEST, S, book, [], [])

    def test_refused_lengths(self):
        for length2 in (LONGEST + 1, LONGEST + 2, 2**41, LARGEST - 1, LARGEST):
            self.check(length2, S, C, [], [-4])
            self.check(length2, EACH_STUFF, B, [0, 1, 2, 7], [-4])

    def test_longer_way_leaves_no_more(self):
        for book in (B, C, make_book([MOST] * 8, MOST // 2), make_book([MOST] * 8, 0)):
            for walls in ([], [3], [2, 7], [1, 1, 1, 1]):
                told = [gains(length2, EACH_STUFF, book, walls)[1:] for length2 in LENGTHS]
                for shorter, longer in itertools.pairwise(told):
                    for band in range(4):
                        self.assertLessEqual(longer[band], shorter[band])


class PartsTest(GainsTest):
    def test_ends_of_the_range(self):
        parts = (0, 1, MOST - 1, MOST)
        for first, second, air in itertools.product(parts, repeat=3):
            book = make_book([first, second] + [0] * 6, air)
            room = make_room(SQUARE, [0, 1, 0, 1])
            for length2 in (0, 2, 1048576, 9 * 1048576):
                for walls in ([], [0], [0, 1], [0, 1, 2], [0, 1, 2, 3]):
                    self.check_fraction(length2, room, book, walls, [wall % 2 for wall in walls])

    def test_nothing_comes_back(self):
        book = make_book([MOST] * 7 + [0], MOST)
        self.check(0, EACH_STUFF, book, [0], [0, 0, 0, 0, 0])
        self.check(0, EACH_STUFF, book, [1, 2, 0], [0, 0, 0, 0, 0])
        self.check(0, EACH_STUFF, book, [1, 2, 3], [0] + [WHOLE] * 4)
        self.check(0, EACH_STUFF, [0] * 36, [], [0] + [WHOLE] * 4)
        self.check(1048576, EACH_STUFF, [0] * 36, [], [0, 0, 0, 0, 0])

    def test_less_back_leaves_no_more(self):
        walls = [0, 3, 7]
        for length2 in (0, 3, 1048576, 4 * 1048576 + 1):
            before = gains(length2, EACH_STUFF, C, walls)
            for place in range(36):
                for less in (0, C[place] // 2, max(C[place] - 1, 0)):
                    book = C[:place] + [less] + C[place + 1:]
                    after = gains(length2, EACH_STUFF, book, walls)
                    for band in range(4):
                        self.assertLessEqual(after[1 + band], before[1 + band])

    def test_other_numbers_of_the_book_do_not_matter(self):
        """A number changes the gain of its own band alone, and only if its wall or the air is met."""
        walls = [0, 3]
        expected = gains(1048576, EACH_STUFF, C, walls)
        for place in range(36):
            changed = gains(1048576, EACH_STUFF, C[:place] + [C[place] // 3] + C[place + 1:], walls)
            stuff, band = place // 4, place % 4
            for other in range(4):
                if other == band and stuff in (STUFF_OF_WALL[0], STUFF_OF_WALL[3], 8):
                    self.assertLess(changed[1 + other], expected[1 + other])
                else:
                    self.assertEqual(changed[1 + other], expected[1 + other])

    def test_no_gain_is_above_the_greatest(self):
        for length2 in LENGTHS:
            for walls in ([], [0], [0, 1, 2, 3]):
                self.assertLessEqual(max(gains(length2, EACH_STUFF, B, walls)), WHOLE)

    def test_many(self):
        choice = random.Random(2)
        for time in range(600):
            book = [choice.choice((0, 1, MOST - 1, MOST, choice.randrange(MOST + 1))) for place in range(36)]
            length2 = choice.randrange(2**choice.randrange(1, 33))
            walls = [choice.randrange(8) for turn in range(choice.randrange(5))]
            self.check_fraction(length2, EACH_STUFF, book, walls, [STUFF_OF_WALL[wall] for wall in walls])


class MidwayTest(GainsTest):
    """Of two whole numbers as near the greater is told."""

    def check_midway(self, length2, parts, air, answer):
        """Parts are what comes back of walls 0, 1, 2 ..; the fraction is to lie just half below the answer."""
        book = make_book(list(parts) + [MOST] * (8 - len(parts)), air)
        room = make_room(OCTAGON, list(range(8)))
        walls = list(range(len(parts)))
        over, under = fraction(length2, book, walls, 0)
        self.assertEqual((2 * answer - 1)**2 * under, 4 * over)
        self.check(length2, room, book, walls, [0] + [answer] * 4)

    def test_half_is_one(self):
        self.check_midway(1, [4096, 1, 1], MOST, 1)
        self.check_midway(0, [1, 4096, 1], MOST, 1)
        self.check_midway(1, [2**14, 2**13, 1, 1], MOST, 1)

    def test_one_and_a_half_and_more(self):
        self.check_midway(1, [4096, 3, 1], MOST, 2)
        self.check_midway(1, [4096, 5, 1], MOST, 3)
        self.check_midway(1, [4096, 32767, 32767], MOST, (32767**2 + 1) // 2)
        self.check_midway(1, [2**14, 2**13, 3, 5], MOST, 8)

    def test_longer_ways(self):
        self.check_midway(4, [8192, 3, 1], MOST, 2)
        self.check_midway(9, [4096, 3, 5], MOST, 3)
        self.check_midway(65536, [2**10, 2**10, 7], MOST, 4)

    def test_with_the_air(self):
        self.check_midway(1024**2, [128], 1, 1)
        self.check_midway(1024**2, [1], 128 * 3, 2)
        self.check_midway(2048**2, [2**10, 2**10], 2**9 * 3, 5)

    def test_just_beside_the_middle(self):
        # 4,096 is the middle: 8,192 times the fraction are the parts, one times another.
        room = make_room(OCTAGON, list(range(8)))
        for part, answer in ((4095, 0), (4096, 1), (4097, 1), (3 * 4096 - 1, 1), (3 * 4096, 2), (3 * 4096 + 1, 2)):
            book = make_book([part, 1, 1] + [MOST] * 5, MOST)
            self.check(1, room, book, [0, 1, 2], [0] + [answer] * 4)

    def test_rounded_once_alone(self):
        # One wall after another, rounded each time, would come to more or to less.
        room = make_room(OCTAGON, list(range(8)))
        self.check_fraction(1, room, make_book([1, 1, MOST, MOST] + [0] * 4, MOST), [0, 1], [0, 1])
        for parts in ([1, 3, 5, 7], [3, 3, 32767, 32767], [32767] * 4, [11, 181, 1, 32767]):
            for length2 in (1, 2, 3, 10, 1048575, 1048577, 9 * 1048576 + 5):
                book = make_book(parts + [0] * 4, 32767)
                self.check_fraction(length2, room, book, [0, 1, 2, 3], [0, 1, 2, 3])


class BookFaultTest(GainsTest):
    def test_wrong_lengths(self):
        for length in range(101):
            if length != 36:
                for number in (0, MOST, MOST + 1, LARGEST):
                    self.check(0, S, [number] * length, [], [-6, length])

    def test_number_too_great_at_each_place(self):
        for place in range(36):
            for number in (MOST + 1, LARGEST):
                self.check(0, S, C[:place] + [number] + C[place + 1:], [], [-6, place])
                self.check(0, S, C[:place] + [number] * (36 - place), [], [-6, place])

    def test_also_where_the_number_is_not_asked_for(self):
        self.check(0, S, B[:31] + [MOST + 1] + B[32:], [0], [-6, 31])
        self.check(0, S, B[:35] + [MOST + 1], [], [-6, 35])


class OrderTest(GainsTest):
    """The refusals in their order, whatever else is to be refused."""

    WALLS = [([0] * 5, [-1]), ([0] * 20, [-1]), ([6], [-1]), ([0, LARGEST], [-1]), ([], None), ([5, 0, 4, 3], None)]
    FAR = [(LONGEST + 1, [-4]), (LARGEST, [-4]), (0, None), (LONGEST, None)]

    def test_every_two_three_and_four_together(self):
        for room, book, walls, length2 in itertools.product(ROOMS, BOOKS, self.WALLS, self.FAR):
            refusal = first_refusal(room, book, walls, length2)
            given = gains(length2[0], room[0], book[0], walls[0])
            if refusal:
                check_answer(self, given, refusal)
            else:
                self.assertEqual((len(given), given[0]), (5, 0))

    def test_walls_of_a_room_of_another_size(self):
        # Which walls there are is told by the room: 4 is the ceiling of a triangle, the floor of a square.
        self.check(0, make_room(TRIANGLE), B, [4], [0] + [WHOLE] * 4)
        self.check(LONGEST + 1, make_room(TRIANGLE), B, [5], [-1])
        self.check(LONGEST + 1, make_room(SQUARE), B, [5], [-4])


class CallByItselfTest(unittest.TestCase):
    def test_by_itself(self):
        check_call_by_itself(self, gains, [
            (4194304, T, C, [0, 4]),
            (0, S, B, []),
            (LONGEST, EACH_STUFF, C, [7, 6, 0, 1]),
            (LONGEST + 1, S, B, []),
            (0, S, B, [6]),
            (0, S, B, [0] * 20),
            (0, S, B[:35], [0]),
            (0, S, C[:20] + [MOST + 1] * 16, [0]),
            (0, [], B, [0]),
            (0, make_room(OCTAGON)[:-3], B, [0]),
            (5, make_room(SQUARE[::-1]), B, [0]),
            (5, make_room(make_comb(64)), C, [65, 64, 63]),
        ])

    def test_same_lists_are_looked_at_anew(self):
        room, book, walls = list(S), list(B), [0]
        self.assertEqual(gains(1, room, book, walls), [0] + [WHOLE] * 4)
        book[0] = 0
        self.assertEqual(gains(1, room, book, walls), [0, 0] + [WHOLE] * 3)
        room[5] = 1
        self.assertEqual(gains(1, room, book, walls), [0] + [WHOLE] * 4)
        walls[0] = 1
        self.assertEqual(gains(1, room, book, walls), [0, 0] + [WHOLE] * 3)
        walls[0] = 6
        self.assertEqual(gains(1, room, book, walls), [-1])
        book[3] = MOST + 1
        self.assertEqual(gains(1, room, book, walls), [-6, 3])
        room[0] = 0
        self.assertEqual(gains(1, room, book, walls), [-5, 2, 0])


if __name__ == "__main__":
    unittest.main()
