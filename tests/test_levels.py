"""Tests of levels: "Books", a gain's level, "The calls", its head and point 3, and "The promises", 3."""

import inspect
import unittest

from tests.handing import check_answer, check_call_by_itself
from wallbands.rooms import levels

WHOLE = 2**24
NOTHING = -100000
LEAST_LEVEL = -145
GREATEST_LEVEL = 240
GREATEST = 18446744073709551615
TOO_GREAT = (18446744073709551616, 18446744073709551617, 73786976294838206463)


def reaches(gain, level):
    """Whether 20 times the logarithm of gain over 2^24 is that level or more: powers of whole numbers alone."""
    return gain**20 * 10**max(-level, 0) >= WHOLE**20 * 10**max(level, 0)


def least_gain(level):
    """The least gain from 1 on that reaches that level."""
    below, at = 0, 2**65
    while at - below > 1:
        middle = (below + at) // 2
        if reaches(middle, level):
            at = middle
        else:
            below = middle
    return at


# By levels, each with the least gain that reaches it; one level more than any gain has.
BOUNDS = {level: least_gain(level) for level in range(LEAST_LEVEL, GREATEST_LEVEL + 2)}


def expected_level(gain):
    """The greatest level that the gain reaches."""
    return max([level for level, bound in BOUNDS.items() if bound <= gain], default=NOTHING)


class LevelsTest(unittest.TestCase):
    def check(self, gains, answer):
        check_answer(self, levels(gains), answer)

    def check_levels(self, gains):
        self.check(gains, [0] + [expected_level(gain) for gain in gains])


class ToldTest(LevelsTest):
    def test_argument_is_called_gains(self):
        self.assertEqual(list(inspect.signature(levels).parameters), ["gains"])
        self.assertEqual(levels(gains=[WHOLE]), [0, 0])

    def test_as_told(self):
        self.check([], [0])
        self.check(
            [0, 1, 16777216, 16777215, 18446744073709551615, 2, 16777217],
            [0, -100000, -145, 0, -1, 240, -139, 0],
        )
        self.check([18824346, 18824345, 1000000], [0, 1, 0, -25])
        self.check([5, 18446744073709551616, 0], [-1])
        self.check([73786976294838206463], [-1])

    def test_one_gain(self):
        for gain, level in ((0, NOTHING), (1, -145), (2, -139), (3, -135), (4, -133), (10, -125), (GREATEST, 240)):
            self.check([gain], [0, level])

    def test_about_the_whole(self):
        self.check([WHOLE - 1], [0, -1])
        self.check([WHOLE], [0, 0])
        self.check([WHOLE + 1], [0, 0])
        self.check([10 * WHOLE - 1, 10 * WHOLE, 10 * WHOLE + 1], [0, 19, 20, 20])
        self.check([100 * WHOLE - 1, 100 * WHOLE, 100 * WHOLE + 1], [0, 39, 40, 40])

    def test_each_power_of_ten_that_is_a_gain(self):
        for power in range(1, 13):
            gain = 10**power * WHOLE
            self.check([gain - 1, gain, gain + 1], [0, 20 * power - 1, 20 * power, 20 * power])


class BoundsTest(LevelsTest):
    def test_bounds_are_those_of_the_words(self):
        self.assertEqual((BOUNDS[LEAST_LEVEL], BOUNDS[0], BOUNDS[1]), (1, WHOLE, 18824346))
        self.assertLessEqual(BOUNDS[GREATEST_LEVEL], GREATEST)
        self.assertGreater(BOUNDS[GREATEST_LEVEL + 1], GREATEST)
        self.assertTrue(reaches(1, LEAST_LEVEL) and not reaches(1, LEAST_LEVEL + 1))

    def test_least_gain_of_each_level_and_the_one_below(self):
        for level in range(LEAST_LEVEL, GREATEST_LEVEL + 1):
            gain = BOUNDS[level]
            self.check_levels([gain])
            self.check_levels([gain - 1])
            self.assertGreaterEqual(levels([gain])[1], level)
            self.assertLess(levels([gain - 1])[1], level)

    def test_all_bounds_in_one_list(self):
        gains = [BOUNDS[level] for level in range(-120, GREATEST_LEVEL + 1)]
        self.check(gains, [0] + list(range(-120, GREATEST_LEVEL + 1)))
        self.check([gain - 1 for gain in gains], [0] + list(range(-121, GREATEST_LEVEL)))

    def test_levels_that_no_gain_has(self):
        # From 1 to 2 it's a step of six: no gain has the levels between.
        told = levels(list(range(1, 200)))[1:]
        for level in range(LEAST_LEVEL, -100):
            self.assertEqual(level in told, BOUNDS[level] < BOUNDS[level + 1])

    def test_greater_gain_has_no_lesser_level(self):
        gains = sorted({2**power + d for power in range(64) for d in (-1, 0, 1)})
        told = levels(gains)[1:]
        self.assertEqual(told, sorted(told))
        self.check_levels(gains)


class ListsTest(LevelsTest):
    def test_a_thousand_gains(self):
        self.check([WHOLE] * 1000, [0] * 1001)
        self.check([GREATEST] * 1000, [0] + [240] * 1000)
        self.check([0] * 1000, [0] + [NOTHING] * 1000)
        self.check_levels([number**6 for number in range(1000)])

    def test_nothing_among_others(self):
        self.check([0, 0, WHOLE], [0, NOTHING, NOTHING, 0])
        self.check([WHOLE, 0, 2 * WHOLE, 0], [0, 0, NOTHING, 6, NOTHING])

    def test_same_gain_twice(self):
        self.check([5, 5], [0, -131, -131])
        self.check([WHOLE, 1, WHOLE, 1], [0, 0, -145, 0, -145])

    def test_order_is_kept(self):
        gains = [3, GREATEST, 0, 1, WHOLE, 2]
        told = levels(gains)[1:]
        self.assertEqual(levels(gains[::-1]), [0] + told[::-1])


class RefusalTest(LevelsTest):
    def test_too_great_at_each_place(self):
        for gain in TOO_GREAT:
            self.check([gain], [-1])
            for length in (2, 3, 10, 1000):
                for place in (0, length // 2, length - 1):
                    gains = [7] * length
                    gains[place] = gain
                    self.check(gains, [-1])

    def test_all_too_great(self):
        self.check([TOO_GREAT[0]] * 2, [-1])
        self.check([TOO_GREAT[2]] * 1000, [-1])

    def test_too_great_beside_nothing(self):
        self.check([0, TOO_GREAT[0]], [-1])
        self.check([TOO_GREAT[0], 0], [-1])

    def test_the_greatest_is_no_refusal(self):
        self.check([GREATEST - 1, GREATEST], [0, 240, 240])


class CallByItselfTest(unittest.TestCase):
    def test_by_itself(self):
        check_call_by_itself(self, levels, [
            ([],),
            ([0],),
            ([WHOLE, 1, 0, GREATEST],),
            ([5, TOO_GREAT[0], 0],),
            ([TOO_GREAT[2]],),
            (list(range(1000)),),
        ])

    def test_same_list_is_looked_at_anew(self):
        gains = [WHOLE]
        self.assertEqual(levels(gains), [0, 0])
        gains.append(1)
        self.assertEqual(levels(gains), [0, 0, -145])
        gains[0] = TOO_GREAT[0]
        self.assertEqual(levels(gains), [-1])
        gains[0] = 0
        self.assertEqual(levels(gains), [0, NOTHING, -145])


if __name__ == "__main__":
    unittest.main()
