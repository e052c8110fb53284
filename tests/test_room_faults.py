"""Tests of a room's fault, as gains tells it: "Rooms", and "The calls", its head."""

import itertools
import random
import unittest

from tests.handing import check_answer
from tests.plans import ANGLE, OCTAGON, SQUARE, TRIANGLE
from tests.plans import begin_at, change, make_comb, make_room, make_saw, mirror, turn
from wallbands.rooms import gains

BOOK = [32768] * 36
LARGEST = 9223372036854775807
SMALLEST = -9223372036854775808
ROOM = [0, 4294967296, 4294967296, 4294967296, 4294967296]


def points_of(start, end):
    """Each point of a line in one of the eight directions that another such line can have in common with it.

    Twice as large as it is: two lines askew may meet halfway between whole numbers.
    """
    run = (end[0] - start[0], end[1] - start[1])
    steps = 2 * max(abs(run[0]), abs(run[1]))
    step = tuple((number > 0) - (number < 0) for number in run)
    return {(2 * start[0] + k * step[0], 2 * start[1] + k * step[1]) for k in range(steps + 1)}


def heading(start, end):
    """The direction from start to end as one of eight, or None."""
    x, y = end[0] - start[0], end[1] - start[1]
    for step in itertools.product((-1, 0, 1), repeat=2):
        length = max(abs(x), abs(y))
        if length and (x, y) == (step[0] * length, step[1] * length):
            return step
    return None


def expected_fault(corners):
    """The fault of a plan whose numbers are all in their ranges, told by looking at single points."""
    n = len(corners)
    lines = [(corners[i], corners[(i + 1) % n]) for i in range(n)]
    headings = [heading(*line) for line in lines]
    if None in headings:
        return [4, headings.index(None)]
    for i in range(n):
        after = headings[(i + 1) % n]
        if headings[i] in (after, (-after[0], -after[1])):
            return [5, i]
    points = [points_of(*line) for line in lines]
    for i in range(n):
        others = [j for j in range(n) if (i - j) % n not in (0, 1, n - 1)]
        if any(points[i] & points[j] for j in others):
            return [6, i]
    # At the least corner the room bulges out: there a walk with the room to the left turns left.
    least = corners.index(min(corners))
    before, after = headings[least - 1], headings[least]
    if before[0] * after[1] - before[1] * after[0] < 0:
        return [7, 0]
    return None


class FaultTest(unittest.TestCase):
    def check(self, room, rule, wall):
        check_answer(self, gains(0, room, BOOK, []), [-5, rule, wall])

    def check_plan(self, corners, rule, wall):
        self.check(make_room(corners), rule, wall)

    def check_room(self, room):
        check_answer(self, gains(0, room, BOOK, []), ROOM)

    def check_as_expected(self, corners):
        fault = expected_fault(corners)
        answer = [-5] + fault if fault else ROOM
        self.assertEqual(gains(0, make_room(corners), BOOK, []), answer, corners)
        return fault


class RoomsTest(FaultTest):
    def test_rooms_of_three_corners(self):
        for corners in (TRIANGLE, [(0, 0), (200, 0), (100, 100)], [(5, 5), (6, 5), (6, 6)]):
            for number in range(3):
                self.check_room(make_room(begin_at(corners, number)))

    def test_rooms_in_all_eight_directions(self):
        for corners in (TRIANGLE, SQUARE, ANGLE, OCTAGON, make_saw(8), make_comb(8)):
            for quarter in range(4):
                for number in range(len(corners)):
                    with self.subTest(corners=corners, quarter=quarter, number=number):
                        self.check_room(make_room(begin_at(corners, number)))
                        self.check_room(make_room(begin_at(mirror(corners, 300), number)))
                corners = turn(corners, 300)

    def test_rooms_of_64_corners(self):
        for corners in (make_saw(64), make_comb(64)):
            self.assertEqual(len(set(corners)), 64)
            for number in (0, 1, 31, 63):
                self.check_room(make_room(begin_at(corners, number)))
                self.check_room(make_room(mirror(begin_at(corners, number), 700)))
                self.check_room(make_room(turn(begin_at(corners, number), 700)))

    def test_room_as_large_as_may_be(self):
        self.check_room(make_room([(0, 0), (4095, 0), (4095, 4095), (0, 4095)], [7] * 4, (4095, 7, 7)))
        self.check_room(make_room([(4095, 0), (4095, 4095), (0, 4095)], [7] * 3, (4095, 7, 7)))

    def test_room_as_small_as_may_be(self):
        self.check_room(make_room([(0, 0), (1, 0), (0, 1)], head=(1, 0, 0)))
        self.check_room(make_room([(4095, 4095), (4094, 4095), (4094, 4094)], head=(1, 0, 0)))


class CountTest(FaultTest):
    """Rule 1."""

    def test_as_told(self):
        for length in (0, 2, 3, 4, 9):
            for number in (0, 1, -1, LARGEST, SMALLEST):
                self.check([number] * length, 1, 0)

    def test_whatever_else_is_wrong(self):
        for length in (0, 2, 3, 4, 9):
            room = make_room(SQUARE)[:length]
            for length2, book, walls in itertools.product((0, 2**64 - 1), (BOOK, []), ([], [2**64 - 1] * 20)):
                check_answer(self, gains(length2, room, book, walls), [-5, 1, 0])

    def test_every_length_up_to_a_room(self):
        square = make_room(SQUARE)
        for length in range(12):
            self.check(square[:length], 1, 0)
        self.check_room(make_room(TRIANGLE))
        self.check(square[:13], 1, 0)
        self.check(square[:14], 1, 0)
        self.check_room(square)
        self.check(square + [0], 1, 0)
        self.check(square + [0, 0], 1, 0)

    def test_two_corners(self):
        self.check_plan([(0, 0), (200, 0)], 1, 0)

    def test_about_64_corners(self):
        room = make_room(make_saw(64))
        self.check_room(room)
        self.check(room[:-1], 1, 0)
        self.check(room + [0], 1, 0)
        self.check(room + [0, 0], 1, 0)
        self.check_plan(make_saw(66), 1, 0)
        self.check_plan(make_saw(66)[:65], 1, 0)
        # 65 corners that would make a room, were they not too many.
        cut = make_comb(64)
        cut = cut[:-1] + [(10, 90), (0, 80)]
        self.assertEqual((len(cut), expected_fault(cut)), (65, None))
        self.check_plan(cut, 1, 0)

    def test_longest_lists(self):
        for length in range(196, 301):
            self.check([0] * length, 1, 0)
            self.check([1] * length, 1, 0)


class HeadTest(FaultTest):
    """Rule 2."""

    def test_height(self):
        for height in (1, 2, 4094, 4095):
            self.check_room(change(make_room(SQUARE), {0: height}))
        for height in (0, 4096, -1, -4095, LARGEST, SMALLEST):
            self.check(change(make_room(SQUARE), {0: height}), 2, 0)

    def test_stuffs_of_floor_and_ceiling(self):
        for place in (1, 2):
            for stuff in range(8):
                self.check_room(change(make_room(SQUARE), {place: stuff}))
            for stuff in (-1, 8, LARGEST, SMALLEST):
                self.check(change(make_room(SQUARE), {place: stuff}), 2, 0)

    def test_ahead_of_later_rules(self):
        for place, number in ((0, 0), (0, 4096), (1, -1), (2, 8)):
            for later in (3, 4, 5, 14):
                self.check(change(make_room(SQUARE), {later: -1, place: number}), 2, 0)
        for corners in EVERY_LATER_FAULT.values():
            self.check(make_room(corners, head=(0, 0, 0)), 2, 0)
            self.check(make_room(corners, head=(100, 8, 0)), 2, 0)
            self.check(make_room(corners, head=(100, 0, -1)), 2, 0)


class CornerTest(FaultTest):
    """Rule 3."""

    def test_as_told(self):
        square = make_room(SQUARE)
        self.check(change(square, {6: -1}), 3, 1)
        self.check(change(square, {8: 8}), 3, 1)
        self.check(change(square, {10: 4096}), 3, 2)

    def test_each_number_of_each_corner(self):
        for corners in (TRIANGLE, SQUARE, OCTAGON, make_saw(64)):
            room = make_room(corners)
            for number in range(len(corners)):
                for part in range(3):
                    for wrong in (-1, 8 if part == 2 else 4096, LARGEST, SMALLEST):
                        self.check(change(room, {3 + 3 * number + part: wrong}), 3, number)

    def test_stuffs(self):
        for number in range(4):
            for stuff in range(8):
                self.check_room(change(make_room(SQUARE), {5 + 3 * number: stuff}))

    def test_largest_and_smallest_at_every_place(self):
        for corners in (TRIANGLE, SQUARE, OCTAGON):
            room = make_room(corners)
            for place in range(len(room)):
                for number in (LARGEST, SMALLEST):
                    rule, wall = (2, 0) if place < 3 else (3, (place - 3) // 3)
                    self.check(change(room, {place: number}), rule, wall)
            self.check([LARGEST] * len(room), 2, 0)
            self.check([SMALLEST] * len(room), 2, 0)
            self.check([1, 0, 0] + [LARGEST, SMALLEST, 0] * len(corners), 3, 0)

    def test_first_corner_is_told(self):
        self.check(change(make_room(SQUARE), {14: 8, 9: -1, 13: 4096}), 3, 2)
        self.check(change(make_room(SQUARE), {12: 4096, 8: -1}), 3, 1)

    def test_ahead_of_later_rules(self):
        for corners in EVERY_LATER_FAULT.values():
            last = len(corners) - 1
            room = make_room(corners)
            self.check(change(room, {5 + 3 * last: 8}), 3, last)
            self.check(change(room, {5 + 3 * last: -1, 8: 8}), 3, 1)
        # A corner too far out makes a line of no direction, too, and that line has a lesser number.
        self.check_plan([(0, 0), (200, 0), (200, 5000), (0, 200)], 3, 2)


class DirectionTest(FaultTest):
    """Rule 4."""

    def test_as_told(self):
        self.check_plan([(0, 0), (0, 0), (200, 200), (0, 200)], 4, 0)
        self.check_plan([(0, 0), (200, 100), (200, 200), (0, 200)], 4, 0)

    def test_no_length_at_each_line(self):
        for corners in (TRIANGLE, SQUARE, OCTAGON):
            for number in range(len(corners)):
                doubled = corners[:number] + [corners[number]] + corners[number:]
                self.check_plan(doubled, 4, number)
        # The last corner stands where the first does: the line without a length is the last one.
        self.check_plan(SQUARE + [SQUARE[0]], 4, 4)

    def test_every_direction_of_a_line(self):
        middle = (20, 20)
        for x, y in itertools.product(range(41), repeat=2):
            run = (x - 20, y - 20)
            right = run != (0, 0) and (0 in run or abs(run[0]) == abs(run[1]))
            given = gains(0, make_room([middle, (x, y), (20, 30), (30, 30)]), BOOK, [])
            self.assertEqual(given[:3] != [-5, 4, 0], right, run)

    def test_nearly_a_direction_in_a_large_room(self):
        self.check_plan([(0, 0), (4095, 0), (4095, 4094), (0, 4095)], 4, 2)
        self.check_plan([(0, 0), (4095, 4094), (0, 4094)], 4, 0)
        self.check_plan([(0, 1), (4095, 4095), (0, 4095)], 4, 0)

    def test_last_line(self):
        self.check_plan([(0, 0), (200, 0), (200, 200), (1, 200)], 4, 3)

    def test_first_line_is_told(self):
        self.check_plan([(0, 0), (200, 0), (201, 200), (200, 200), (200, 200)], 4, 1)

    def test_ahead_of_later_rules(self):
        # The line of no direction comes last, what breaks the later rule is at the first one.
        self.check_plan([(0, 0), (100, 0), (200, 0), (200, 200), (1, 200)], 4, 4)
        self.check_plan([(0, 0), (200, 200), (200, 0), (0, 200), (1, 100)], 4, 3)
        self.check_plan([(0, 0), (0, 200), (200, 200), (200, 1)], 4, 3)


class BendTest(FaultTest):
    """Rule 5."""

    def test_as_told(self):
        self.check_plan([(0, 0), (100, 0), (200, 0), (200, 200), (0, 200)], 5, 0)
        self.check_plan([(0, 0), (200, 0), (100, 0), (100, 200), (0, 200)], 5, 0)
        self.check_plan([(100, 0), (200, 0), (200, 200), (0, 200), (0, 0)], 5, 4)

    def test_a_corner_amid_each_line(self):
        for corners in (TRIANGLE, SQUARE, OCTAGON):
            for number in range(len(corners)):
                start, end = corners[number], corners[(number + 1) % len(corners)]
                amid = ((start[0] + end[0]) // 2, (start[1] + end[1]) // 2)
                self.check_plan(corners[:number + 1] + [amid] + corners[number + 1:], 5, number)

    def test_back_the_same_way_in_each_direction(self):
        for x, y in itertools.product((0, 100, 200), repeat=2):
            if (x, y) != (100, 100):
                halfway = ((100 + x) // 2, (100 + y) // 2)
                self.check_plan([(100, 100), (x, y), halfway], 5, 0)

    def test_straight_on_and_back_at_the_last_corner(self):
        self.check_plan([(50, 0), (200, 0), (200, 200), (100, 200), (100, 0)], 5, 4)

    def test_first_line_is_told(self):
        self.check_plan([(0, 0), (200, 0), (200, 100), (200, 200), (100, 200), (0, 200)], 5, 1)
        self.check_plan([(0, 0), (200, 0), (200, 200), (100, 200), (0, 200), (0, 100)], 5, 2)

    def test_ahead_of_later_rules(self):
        # Lines 0 and 2 cross, but line 4 goes straight on.
        self.check_plan([(0, 0), (200, 200), (200, 0), (0, 200), (0, 100)], 5, 3)
        self.check_plan([(0, 0), (0, 200), (200, 200), (200, 0), (100, 0)], 5, 3)


class MeetingTest(FaultTest):
    """Rule 6."""

    def check_all_beginnings(self, corners, meeting):
        """However the corners are numbered and whichever way they are walked, the least line is told."""
        n = len(corners)
        for number in range(n):
            with self.subTest(number=number):
                self.check_plan(begin_at(corners, number), 6, min((line - number) % n for line in meeting))
                least = min((n - 2 - line - number) % n for line in meeting)
                self.check_plan(begin_at(corners[::-1], number), 6, least)

    def test_as_told(self):
        self.check_plan([(0, 0), (200, 200), (200, 0), (0, 200)], 6, 0)
        touching = [(0, 0), (200, 0), (200, 200), (100, 200), (100, 0), (50, 50), (0, 50)]
        self.check_plan(touching, 6, 0)
        self.check_all_beginnings(touching, (0, 3, 4))

    def test_crossing_askew(self):
        self.check_all_beginnings([(0, 0), (200, 200), (200, 0), (0, 200)], (0, 2))

    def test_crossing_between_whole_numbers(self):
        self.check_all_beginnings([(0, 0), (1, 1), (1, 0), (0, 1)], (0, 2))
        self.check_all_beginnings([(0, 0), (3, 3), (3, 0), (0, 3)], (0, 2))

    def test_crossing_straight(self):
        corners = [(0, 50), (200, 50), (200, 100), (100, 100), (100, 0), (0, 0)]
        self.check_all_beginnings(corners, (0, 3))

    def test_crossing_straight_and_askew(self):
        corners = [(100, 0), (100, 200), (50, 200), (50, 50), (150, 150), (150, 0)]
        self.check_all_beginnings(corners, (0, 3))

    def test_two_corners_at_one_place(self):
        corners = [(0, 0), (200, 0), (200, 100), (100, 100), (100, 200), (200, 200), (200, 300), (0, 300)]
        self.check_room(make_room(corners))
        corners = [(0, 0), (100, 0), (100, 100), (200, 100), (200, 200), (100, 200), (100, 100), (0, 100)]
        self.check_all_beginnings(corners, (1, 2, 5, 6))

    def test_an_end_on_another_line(self):
        corners = [(0, 0), (200, 0), (200, 200), (150, 200), (150, 0), (100, 50), (100, 100), (0, 100)]
        self.check_all_beginnings(corners, (0, 3, 4))

    def test_one_upon_another(self):
        corners = [(0, 0), (300, 0), (300, 100), (200, 100), (200, 0), (100, 0), (100, 200), (0, 200)]
        self.check_all_beginnings(corners, (0, 3, 4, 5))

    def test_one_upon_another_askew(self):
        corners = [(0, 0), (300, 300), (300, 400), (200, 400), (200, 200), (100, 100), (100, 500), (0, 500)]
        self.assertEqual(self.check_as_expected(corners), [6, 0])
        for number in range(8):
            self.assertEqual(self.check_as_expected(begin_at(corners, number))[0], 6)

    def test_behind_one_another_is_no_meeting(self):
        # Lines 0 and 4 lie on one line, but apart; so do the teeth of a saw, askew.
        self.check_room(make_room([(0, 0), (100, 0), (100, 50), (200, 50), (200, 0), (300, 0), (300, 90), (0, 90)]))
        self.check_room(make_room([(0, 0), (100, 100), (150, 50), (200, 100), (200, 200), (0, 200)]))
        self.check_room(make_room([(0, 0), (50, 50), (100, 50), (100, 100), (150, 150), (0, 150)]))

    def test_near_one_another_is_no_meeting(self):
        apart = [(0, 0), (200, 0), (200, 200), (150, 200), (150, 1), (100, 51), (100, 100), (0, 100)]
        self.check_room(make_room(apart))
        touching = [(x, y - 1 if y in (1, 51) else y) for x, y in apart]
        self.check_plan(touching, 6, 0)
        past = [(x, y + 1 if y == 0 and x in (0, 200) else y) for x, y in touching]
        self.check_plan(past, 6, 0)

    def test_neighbours_are_left_out(self):
        # The last line and the first one have corner 0 in common.
        for corners in (SQUARE, OCTAGON, ANGLE):
            for number in range(len(corners)):
                self.check_room(make_room(begin_at(corners, number)))

    def test_among_64_lines(self):
        corners = make_comb(64)
        self.check_room(make_room(corners))
        # The last gap between the teeth is drawn up to the wall behind them.
        corners[58] = (corners[58][0], 90)
        corners[59] = (corners[59][0], 90)
        self.check_plan(corners, 6, 57)
        self.check_all_beginnings(corners, (57, 58, 59, 62))

    def test_ahead_of_the_last_rule(self):
        # Two squares that touch at a corner, both walked with the room to the right.
        corners = [(0, 100), (100, 100), (100, 200), (200, 200), (200, 100), (100, 100), (100, 0), (0, 0)]
        self.check_all_beginnings(corners, (0, 1, 4, 5))


class SideTest(FaultTest):
    """Rule 7."""

    def test_as_told(self):
        self.check_plan([(0, 0), (0, 200), (200, 200), (200, 0)], 7, 0)

    def test_walked_the_other_way(self):
        for corners in (TRIANGLE, SQUARE, ANGLE, OCTAGON, make_saw(64), make_comb(64)):
            for number in (0, 1, len(corners) - 1):
                self.check_plan(begin_at(corners, number)[::-1], 7, 0)
                self.check_plan([(y, x) for x, y in begin_at(corners, number)], 7, 0)


# A plan that breaks just that rule, by the rule's number.
EVERY_LATER_FAULT = {
    4: [(0, 0), (0, 0), (200, 200), (0, 200)],
    5: [(0, 0), (100, 0), (200, 0), (200, 200), (0, 200)],
    6: [(0, 0), (200, 200), (200, 0), (0, 200)],
    7: [(0, 0), (0, 200), (200, 200), (200, 0)],
}


class EveryPlanTest(FaultTest):
    def test_every_three_and_four_corners_of_a_small_field(self):
        field = list(itertools.product(range(3), repeat=2))
        seen = {}
        for count in (3, 4):
            for corners in itertools.product(field, repeat=count):
                fault = self.check_as_expected(list(corners))
                seen[tuple(fault or [0, 0])] = True
        wanted = [(0, 0), (7, 0), (6, 0), (6, 1)] + [(4, i) for i in range(4)] + [(5, i) for i in range(4)]
        self.assertEqual(sorted(seen), sorted(wanted))

    def test_many_walks(self):
        choice = random.Random(1)
        seen = {}
        for count in (5, 6, 7, 8, 9):
            for time in range(1500):
                corners = self.make_walk(choice, count)
                fault = self.check_as_expected(corners)
                seen[fault[0] if fault else 0] = True
        self.assertEqual(sorted(seen), [0, 4, 5, 6, 7])

    def make_walk(self, choice, count):
        """Corners each in one of the eight directions from the one before, within a small field."""
        corners = [(choice.randrange(6), choice.randrange(6))]
        while len(corners) < count:
            x, y = choice.choice(((1, 0), (0, 1), (1, 1), (1, -1)))
            length = choice.choice((-3, -2, -1, 1, 2, 3))
            place = (corners[-1][0] + x * length, corners[-1][1] + y * length)
            if 0 <= min(place) and max(place) <= 6:
                corners.append(place)
        return corners


if __name__ == "__main__":
    unittest.main()
