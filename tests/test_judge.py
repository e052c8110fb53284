"""Tests of judge: "Books", and "The calls", its head and point 1."""

import inspect
import unittest

from tests.handing import check_answer, check_call_by_itself
from wallbands.rooms import judge

MOST = 32768
TOO_GREAT = (32769, 18446744073709551615)


def book_in_order():
    """36 numbers that all differ, each in its range."""
    return [place * 900 + 1 for place in range(36)]


def book_with(changes):
    """A book in order, but for the numbers that changes tells by their places."""
    book = book_in_order()
    for place, number in changes.items():
        book[place] = number
    return book


class JudgeTest(unittest.TestCase):
    def check(self, book, answer):
        check_answer(self, judge(book), answer)

    def test_book_in_order(self):
        self.check(book_in_order(), [0])

    def test_argument_is_called_book(self):
        self.assertEqual(list(inspect.signature(judge).parameters), ["book"])
        self.assertEqual(judge(book=book_in_order()), [0])

    def test_both_ends_of_the_range(self):
        self.check([0] * 36, [0])
        self.check([MOST] * 36, [0])
        self.check([0, MOST] * 18, [0])

    def test_each_place_may_hold_each_end(self):
        for place in range(36):
            for number in (0, 1, MOST - 1, MOST):
                with self.subTest(place=place, number=number):
                    self.check(book_with({place: number}), [0])

    def test_wrong_lengths(self):
        self.check([], [-6, 0])
        for length in (1, 4, 32, 35, 37, 72, 100):
            with self.subTest(length=length):
                self.check([0] * length, [-6, length])
                self.check([MOST] * length, [-6, length])

    def test_every_length(self):
        for length in range(101):
            with self.subTest(length=length):
                self.check([7] * length, [0] if length == 36 else [-6, length])

    def test_one_number_too_great_at_each_place(self):
        for number in TOO_GREAT:
            for place in range(36):
                with self.subTest(place=place, number=number):
                    self.check(book_with({place: number}), [-6, place])

    def test_last_of_zeros_too_great(self):
        self.check([0] * 35 + [32769], [-6, 35])

    def test_first_too_great_counts(self):
        self.check([32769] * 36, [-6, 0])
        self.check(book_with({3: 32769, 4: 18446744073709551615, 35: 32769}), [-6, 3])
        self.check(book_with({17: 18446744073709551615, 31: 32769, 32: 40000}), [-6, 17])
        self.check(book_with({32: 40000, 35: 18446744073709551615}), [-6, 32])

    def test_length_counts_before_numbers_too_great(self):
        for number in TOO_GREAT:
            for length in (1, 35, 37, 100):
                with self.subTest(length=length, number=number):
                    self.check([number] * length, [-6, length])
                    self.check([0] * (length - 1) + [number], [-6, length])
                    self.check([number] + [0] * (length - 1), [-6, length])


class CallByItselfTest(unittest.TestCase):
    def test_by_itself(self):
        check_call_by_itself(self, judge, [
            (book_in_order(),),
            ([],),
            ([0] * 35,),
            ([32769] * 37,),
            (book_with({0: 32769}),),
            (book_with({20: 18446744073709551615, 21: 32769}),),
            ([MOST] * 36,),
        ])

    def test_same_list_is_looked_at_anew(self):
        book = book_in_order()
        self.assertEqual(judge(book), [0])
        book[5] = 32769
        self.assertEqual(judge(book), [-6, 5])
        book.append(0)
        self.assertEqual(judge(book), [-6, 37])


if __name__ == "__main__":
    unittest.main()
