"""What holds of every call, whatever it answers: it is by itself and leaves what it is handed as it is."""

import contextlib
import copy
import io


class UnchangeableList(list):
    """A list that refuses each change, so that one that is taken back is seen too."""

    def refuse(self, *args, **kwargs):
        raise AssertionError("what is handed in was changed")

    append = clear = extend = insert = pop = remove = reverse = sort = refuse
    __setitem__ = __delitem__ = __iadd__ = __imul__ = refuse


def make_unchangeable(handed):
    return [UnchangeableList(value) if isinstance(value, list) else value for value in handed]


def check_answer(test, given, answer):
    """The answer is that list, and whole numbers in it are no truth values."""
    test.assertEqual(given, answer)
    test.assertIs(type(given), list)
    for number in given:
        test.assertIs(type(number), int)


def check_call_by_itself(test, call, cases):
    """Hold the call to it, with cases that are each what one time is handed in."""
    cases = copy.deepcopy(cases)
    before = copy.deepcopy(cases)
    out = io.StringIO()
    err = io.StringIO()
    with contextlib.redirect_stdout(out), contextlib.redirect_stderr(err):
        first = [call(*handed) for handed in cases]
        second = [call(*handed) for handed in cases]
        backwards = [call(*handed) for handed in reversed(cases)]
        unchangeable = [call(*make_unchangeable(handed)) for handed in cases]
    test.assertEqual((out.getvalue(), err.getvalue()), ("", ""))
    test.assertEqual(cases, before)
    test.assertEqual(second, first)
    test.assertEqual(backwards, first[::-1])
    test.assertEqual(unchangeable, first)
    expected = copy.deepcopy(first)
    for answer in first + second:
        answer.append(99)
        answer[0] = 1
    test.assertEqual([call(*handed) for handed in cases], expected)
