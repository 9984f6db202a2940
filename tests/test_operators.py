"""Operators: points [26], [30] and [31]."""

import unittest

from livequill.values.operators import binary, unary
from livequill.values.refs import Builtin, Ref
from stores import MOST, OVERFLOW, SIZE, Shelf, error_of

SIGNS = ["+", "-", "*", "/", "mod", "==", "!=", "<", "<=", ">", ">=", "is"]
ZERO = ("ZeroDivisionError", "division by zero")
NUMBERS = [-MOST, 1 - MOST, -1000, -8, -7, -3, -2, -1, 0, 1, 2, 3, 7, 8, 1000, MOST - 1, MOST]


def floored(x, y):
    """The quotient of two integers rounded down, told without Python's own one for negative integers."""
    quotient = abs(x) // abs(y)
    if (x < 0) == (y < 0):
        return quotient
    return -quotient if quotient * abs(y) == abs(x) else -quotient - 1


class IntegersTest(unittest.TestCase):
    def setUp(self):
        self.store = Shelf().store

    def check(self, operator, x, y, result):
        with self.subTest((operator, x, y)):
            if abs(result) > MOST:
                self.assertEqual(error_of(self.store, binary, operator, x, y), OVERFLOW)
            else:
                found = binary(self.store, operator, x, y)
                self.assertEqual(found, result)
                self.assertNotIsInstance(found, bool)

    def test_all_pairs(self):
        for x in NUMBERS:
            for y in NUMBERS:
                self.check("+", x, y, x + y)
                self.check("-", x, y, x - y)
                self.check("*", x, y, x * y)
                if y != 0:
                    self.check("/", x, y, floored(x, y))
                    self.check("mod", x, y, x - y * floored(x, y))

    def test_quotients_of_all_signs(self):
        cases = [(7, 2, 3, 1), (-7, 2, -4, 1), (7, -2, -4, -1), (-7, -2, 3, -1), (6, 2, 3, 0), (-6, 2, -3, 0),
                 (6, -2, -3, 0), (-6, -2, 3, 0), (0, 5, 0, 0), (0, -5, 0, 0), (1, 5, 0, 1), (-1, 5, -1, 4),
                 (1, -5, -1, -4), (-1, -5, 0, -1)]
        for x, y, quotient, rest in cases:
            self.check("/", x, y, quotient)
            self.check("mod", x, y, rest)

    def test_division_by_zero(self):
        for x in NUMBERS:
            for operator in ("/", "mod"):
                self.assertEqual(error_of(self.store, binary, operator, x, 0), ZERO)

    def test_bounds(self):
        root = 10 ** 150
        self.assertEqual(error_of(self.store, binary, "*", root, root), OVERFLOW)
        self.assertEqual(error_of(self.store, binary, "*", -root, root), OVERFLOW)
        self.assertEqual(binary(self.store, "*", root - 1, root), root * root - root)
        self.assertEqual(binary(self.store, "+", MOST - 1, 1), MOST)
        self.assertEqual(error_of(self.store, binary, "+", MOST, 1), OVERFLOW)
        self.assertEqual(error_of(self.store, binary, "-", -MOST, 1), OVERFLOW)
        self.assertEqual(binary(self.store, "-", 1 - MOST, 1), -MOST)
        # The first integers with as many bits as the bound are not too large yet.
        self.assertEqual(binary(self.store, "+", 2 ** 996, 0), 2 ** 996)
        self.assertEqual(error_of(self.store, binary, "+", 2 ** 996, 2 ** 996), OVERFLOW)

    def test_negate(self):
        for x in NUMBERS:
            self.assertEqual(unary(self.store, "-", x), -x)

    def test_order(self):
        for at, x in enumerate(NUMBERS):
            for index, y in enumerate(NUMBERS):
                self.assertIs(binary(self.store, "<", x, y), at < index)
                self.assertIs(binary(self.store, "<=", x, y), at <= index)
                self.assertIs(binary(self.store, ">", x, y), at > index)
                self.assertIs(binary(self.store, ">=", x, y), at >= index)


class TextsAndListsTest(unittest.TestCase):
    def setUp(self):
        self.shelf = Shelf()
        self.store = self.shelf.store

    def test_texts(self):
        self.assertEqual(binary(self.store, "+", "ab", "cd"), "abcd")
        self.assertEqual(binary(self.store, "+", "", ""), "")
        self.assertEqual(binary(self.store, "+", "a" * 999, "b"), "a" * 999 + "b")
        self.assertEqual(binary(self.store, "+", "a" * 1000, ""), "a" * 1000)
        self.assertEqual(error_of(self.store, binary, "+", "a" * 1000, "b"), SIZE)
        self.assertEqual(error_of(self.store, binary, "+", "a", "b" * 1000), SIZE)

    def test_order_of_texts(self):
        texts = ["", "\n", " ", "0", "1", "10", "2", "A", "AB", "B", "_", "a", "ab", "b"]
        for at, x in enumerate(texts):
            for index, y in enumerate(texts):
                self.assertIs(binary(self.store, "<", x, y), at < index)
                self.assertIs(binary(self.store, "<=", x, y), at <= index)
                self.assertIs(binary(self.store, ">", x, y), at > index)
                self.assertIs(binary(self.store, ">=", x, y), at >= index)

    def test_lists(self):
        one, other = self.shelf.list(1, "a"), self.shelf.list(None)
        many = len(self.store.things)
        both = binary(self.store, "+", one, other)
        self.assertEqual(both, Ref(many))
        self.assertEqual(self.shelf.held(both), [1, "a", None])
        self.assertEqual((self.shelf.held(one), self.shelf.held(other)), ([1, "a"], [None]))
        twice = binary(self.store, "+", one, one)
        self.assertEqual(self.shelf.held(twice), [1, "a", 1, "a"])
        self.assertEqual(len(self.store.things), many + 2)

    def test_lists_of_the_greatest_size(self):
        most = self.shelf.list(*range(1000))
        empty, one = self.shelf.list(), self.shelf.list(1)
        self.assertEqual(len(self.shelf.held(binary(self.store, "+", most, empty))), 1000)
        self.assertEqual(error_of(self.store, binary, "+", most, one), SIZE)
        self.assertEqual(error_of(self.store, binary, "+", one, most), SIZE)


class KindsTest(unittest.TestCase):
    """Each operator with each pair of kinds."""

    def setUp(self):
        self.shelf = Shelf()
        self.store = self.shelf.store
        self.values = self.shelf.of_each_kind()

    def expected_verb(self, operator, kinds):
        """The verb of the error, or None if the operands have the right kinds."""
        if operator == "+":
            return None if kinds in [("integer",) * 2, ("text",) * 2, ("list",) * 2] else "add"
        if operator in ("<", "<=", ">", ">="):
            return None if kinds in [("integer",) * 2, ("text",) * 2] else "compare"
        if operator in ("-", "*", "/", "mod"):
            verbs = {"-": "subtract", "*": "multiply", "/": "divide", "mod": "divide"}
            return None if kinds == ("integer",) * 2 else verbs[operator]
        return None

    def test_each_pair(self):
        for operator in SIGNS:
            for kind, x in self.values:
                for other, y in self.values:
                    with self.subTest((operator, kind, other)):
                        verb = self.expected_verb(operator, (kind, other))
                        expected = None
                        if verb is not None:
                            expected = ("KindError", f"cannot {verb} {kind} and {other}")
                        elif operator == "is" and other != "class":
                            expected = ("KindError", "is needs a class")
                        elif operator in ("/", "mod") and y == 0:
                            expected = ZERO
                        self.assertEqual(error_of(self.store, binary, operator, x, y), expected)

    def test_kinds_come_before_zero(self):
        self.assertEqual(error_of(self.store, binary, "/", "a", 0), ("KindError", "cannot divide text and integer"))
        self.assertEqual(error_of(self.store, binary, "mod", True, 0),
                         ("KindError", "cannot divide boolean and integer"))
        self.assertEqual(error_of(self.store, binary, "/", 1, False),
                         ("KindError", "cannot divide integer and boolean"))

    def test_kinds_come_before_size(self):
        self.assertEqual(error_of(self.store, binary, "+", "a" * 1000, MOST),
                         ("KindError", "cannot add text and integer"))

    def test_negate(self):
        for kind, x in self.values:
            expected = None if kind == "integer" else ("KindError", f"cannot negate {kind}")
            self.assertEqual(error_of(self.store, unary, "-", x), expected)

    def test_not(self):
        for kind, x in self.values:
            self.assertIs(unary(self.store, "not", x), x is None or x is False)

    def test_equality(self):
        for at, (_, x) in enumerate(self.values):
            for index, (_, y) in enumerate(self.values):
                self.assertIs(binary(self.store, "==", x, y), at == index)
                self.assertIs(binary(self.store, "!=", x, y), at != index)

    def test_equal_values_made_anew(self):
        self.assertIs(binary(self.store, "==", Builtin("len"), Builtin("len")), True)
        self.assertIs(binary(self.store, "==", self.shelf.list(1), self.shelf.list(1)), False)
        self.assertIs(binary(self.store, "==", MOST, 10 ** 300 - 1), True)

    def test_results_leave_the_store_alone(self):
        many = len(self.store.things)
        for operator in SIGNS:
            error_of(self.store, binary, operator, 7, 2)
        self.assertEqual(len(self.store.things), many)


class IsTest(unittest.TestCase):
    def test_chains(self):
        shelf = Shelf()
        base = shelf.kin("A")
        middle = shelf.kin("B", base)
        last = shelf.kin("C", middle)
        other = shelf.kin("A")
        failure = shelf.kin("D", Ref(0))
        kins = [base, middle, last, other, failure, Ref(0)]
        above = {0: [0], 1: [0, 1], 2: [0, 1, 2], 3: [3], 4: [4, 5], 5: [5]}
        for at, owner in enumerate(kins):
            instance = shelf.instance(owner)
            for index, kin in enumerate(kins):
                with self.subTest((at, index)):
                    self.assertIs(binary(shelf.store, "is", instance, kin), index in above[at])

    def test_only_instances(self):
        shelf = Shelf()
        for kind, x in shelf.of_each_kind():
            if kind != "instance":
                self.assertIs(binary(shelf.store, "is", x, Ref(0)), False)


if __name__ == "__main__":
    unittest.main()
