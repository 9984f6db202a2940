"""The built-in functions and the order of their errors: points [34] and [35]."""

import unittest

from livequill.errors import Waiting
from livequill.values.calls import call_builtin
from livequill.values.refs import BUILTINS, Builtin, Ref
from livequill.values.things import Parts, Table
from stores import MOST, OVERFLOW, SIZE, WRONG, Shelf, arity, error_of, snapshot

NOT_AN_INTEGER = ("ValueError", "not an integer")
NO_BASE = ("ValueError", "no such base")
NO_CHARACTER = ("ValueError", "no such character")
NEGATIVE = ("ValueError", "the integer is negative")
NEGATIVE_EXPONENT = ("ValueError", "the exponent is negative")
NOTHING = ("ValueError", "nothing to choose from")

# The kinds of the arguments that are asked for by kind alone; the numbers of arguments that there may be.
KINDS = {
    "read": (), "str": ("any",), "kind": ("any",), "int": ("integer text",), "len": ("list text map",), "abs": ("integer",),
    "pow": ("integer", "integer"), "gcd": ("integer", "integer"), "sqrt": ("integer",),
    "base": ("integer", "integer"), "parse": ("text", "integer"), "char": ("integer",),
    "assert": ("any", "text"), "copy": ("any",), "equals": ("any", "any"),
}
FITTING = {"any": None, "integer": 5, "text": "5", "integer text": 5, "list text map": "ab"}


class BuiltinTest(unittest.TestCase):
    def setUp(self):
        self.shelf = Shelf("one", "two")
        self.store = self.shelf.store
        self.values = self.shelf.of_each_kind()

    def call(self, name, *values):
        return call_builtin(self.store, name, list(values))

    def refused(self, name, *values):
        return error_of(self.store, lambda store: call_builtin(store, name, list(values)))

    def check(self, name, cases):
        """Checks the results for tuples of arguments and a result."""
        for *values, result in cases:
            with self.subTest((name, values)):
                found = self.call(name, *values)
                self.assertEqual(found, result)
                self.assertIs(type(found), type(result))

    def check_refused(self, name, error, cases):
        for values in cases:
            with self.subTest((name, values)):
                self.assertEqual(self.refused(name, *values), error)


class CountsAndKindsTest(BuiltinTest):
    def test_every_function_is_here(self):
        self.assertEqual(sorted([*KINDS, "print", "range", "min", "max"]), sorted(BUILTINS))

    def test_numbers_of_arguments(self):
        for name, kinds in KINDS.items():
            for many in range(6):
                if many != len(kinds):
                    wrong = [self.shelf.list()] * many
                    self.assertEqual(self.refused(name, *wrong), arity(len(kinds), many))

    def test_kinds_of_arguments(self):
        for name, kinds in KINDS.items():
            for at, wanted in enumerate(kinds):
                for kind, value in self.values:
                    values = [FITTING[other] for other in kinds]
                    values[at] = value
                    if wanted != "any" and kind not in wanted.split():
                        self.assertEqual(self.refused(name, *values), WRONG, (name, values))
                    else:
                        self.assertNotEqual(self.refused(name, *values), WRONG, (name, values))

    def test_kinds_come_before_values(self):
        self.check_refused("pow", WRONG, [(None, -1), (True, -1), ("2", -1)])
        self.check_refused("base", WRONG, [(None, 99), ("1", 1), (True, 0)])
        self.check_refused("parse", WRONG, [(5, 99), ("zz", "10"), (None, 10)])
        self.check_refused("assert", WRONG, [(True, 1), (False, None), (None, Builtin("len"))])
        self.check_refused("min", WRONG, [(1, "a"), (True, 1)])

    def test_values_come_before_size(self):
        self.check_refused("parse", NO_BASE, [("9" * 400, 99)])
        self.check_refused("parse", NOT_AN_INTEGER, [("9" * 400 + "x", 10)])

    def test_arguments_are_not_changed(self):
        values = [3, 1, 2]
        call_builtin(self.store, "min", values)
        call_builtin(self.store, "print", values)
        self.assertEqual(values, [3, 1, 2])


class PrintAndReadTest(BuiltinTest):
    def test_print(self):
        cases = [([], ""), ([1], "1"), (["a b"], "a b"), (["a", "b"], "a b"), ([None, True, False], "null true false"),
                 ([-5, "", "x"], "-5  x"), (["\n"], "\n"), ([self.shelf.list("a", 1)], "[\"a\", 1]"),
                 ([self.shelf.map(("a", "b"))], "{\"a\": \"b\"}"), ([Builtin("len"), Ref(0)], "<function> <class Error>")]
        for values, line in cases:
            self.assertIs(self.call("print", *values), None)
            self.assertEqual(self.store.output[-1], line)
        self.assertEqual(len(self.store.output), len(cases))

    def test_many_arguments(self):
        self.call("print", *range(200))
        self.assertEqual(self.store.output, [" ".join(str(number) for number in range(200))])

    def test_size(self):
        self.call("print", "a" * 1000)
        self.call("print", "a" * 499, "b" * 500)
        self.assertEqual([len(line) for line in self.store.output], [1000, 1000])
        self.check_refused("print", SIZE, [("a" * 1000, ""), ("a" * 500, "b" * 500), ("a" * 999, 12),
                                           (self.shelf.list("a" * 997),)])
        self.call("print", self.shelf.list("a" * 996))
        self.assertEqual(len(self.store.output[-1]), 1000)

    def test_read(self):
        before = len(self.store.things)
        self.assertEqual([self.call("read"), self.store.taken, self.call("read"), self.store.taken], ["one", 1, "two", 2])
        self.assertEqual(len(self.store.things), before)

    def test_waiting(self):
        for lines in ([], ["a"]):
            shelf = Shelf(*lines)
            for _ in lines:
                call_builtin(shelf.store, "read", [])
            before = snapshot(shelf.store)
            with self.assertRaises(Waiting):
                call_builtin(shelf.store, "read", [])
            self.assertEqual(snapshot(shelf.store), before)
            self.assertEqual(error_of(shelf.store, call_builtin, "read", [1]), arity(0, 1))


class TextsTest(BuiltinTest):
    def test_str(self):
        self.check("str", [("", ""), ("a\"b", "a\"b"), (None, "null"), (True, "true"), (-12, "-12"), (MOST, "9" * 300),
                           (-MOST, "-" + "9" * 300), (Builtin("len"), "<function>"), (Ref(0), "<class Error>"),
                           ("x" * 1000, "x" * 1000)])
        self.assertEqual(self.call("str", self.shelf.list("a\"b", 1)), "[\"a\\\"b\", 1]")
        self.assertEqual(self.call("str", self.shelf.list("a" * 996)), "[\"" + "a" * 996 + "\"]")
        self.check_refused("str", SIZE, [(self.shelf.list("a" * 997),), (self.shelf.map(("a" * 1000, 1)),)])

    def test_kind(self):
        for kind, value in self.values:
            self.assertEqual(self.call("kind", value), kind)

    def test_len(self):
        self.check("len", [("", 0), ("abc", 3), ("a" * 1000, 1000), (self.shelf.list(), 0), (self.shelf.list(1, 2), 2),
                           (self.shelf.map(), 0), (self.shelf.map((1, 1), (True, 1)), 2)])

    def test_char(self):
        found = {}
        for number in range(-3, 300):
            if self.refused("char", number) is None:
                found[number] = self.call("char", number)
            else:
                self.assertEqual(self.refused("char", number), NO_CHARACTER)
        expected = {number: chr(number) for number in [10, *range(32, 127)] if number != 37}
        self.assertEqual(found, expected)
        self.check_refused("char", NO_CHARACTER, [(-1,), (0,), (9,), (37,), (127,), (228,), (8364,), (1114111,),
                                                  (1114112,), (MOST,), (-MOST,)])


class IntegersTest(BuiltinTest):
    def test_int(self):
        self.check("int", [(5, 5), (-MOST, -MOST), ("5", 5), ("-5", -5), ("0", 0), ("-0", 0), ("007", 7), ("-007", -7),
                           ("0" * 1000, 0), ("9" * 300, MOST), ("-" + "9" * 300, -MOST),
                           ("0" * 700 + "9" * 300, MOST)])
        texts = ["", "-", "--5", "+5", "5-", " 5", "5 ", "5\n", "5_0", "1.0", "1e3", "a", "0x1", "five", "- 5",
                 "\u0663", "\uff15", "\u00b2", "\u2460", "5\u0663"]
        self.check_refused("int", NOT_AN_INTEGER, [(text,) for text in texts])
        self.check_refused("int", OVERFLOW, [("1" + "0" * 300,), ("-1" + "0" * 300,), ("9" * 1000,)])

    def test_int_of_other_kinds(self):
        for kind, value in self.values:
            if kind not in ("integer", "text"):
                self.assertEqual(self.refused("int", value), WRONG)
        # The text that writes no integer has the right kind; the number of arguments counts ahead of kinds.
        self.assertEqual(self.refused("int", "null"), NOT_AN_INTEGER)
        self.assertEqual(self.refused("int", None, None), arity(1, 2))

    def test_abs(self):
        self.check("abs", [(5, 5), (-5, 5), (0, 0), (-MOST, MOST)])

    def test_pow(self):
        self.check("pow", [(2, 10, 1024), (-2, 3, -8), (-2, 4, 16), (0, 0, 1), (5, 0, 1), (-5, 0, 1), (MOST, 0, 1),
                           (0, 5, 0), (0, MOST, 0), (1, MOST, 1), (-1, MOST, -1), (-1, MOST - 1, 1), (1, 0, 1),
                           (-1, 0, 1), (-1, 1, -1), (10, 299, 10 ** 299), (-10, 299, -10 ** 299), (2, 996, 2 ** 996),
                           (MOST, 1, MOST), (-MOST, 1, -MOST), (3, 1, 3)])
        self.check_refused("pow", OVERFLOW, [(10, 300), (-10, 300), (-10, 301), (2, 997), (2, MOST), (-2, MOST),
                                             (MOST, 2), (MOST, MOST)])
        self.check_refused("pow", NEGATIVE_EXPONENT, [(2, -1), (0, -1), (1, -1), (-1, -MOST), (MOST, -MOST)])

    def test_gcd(self):
        self.check("gcd", [(12, 18, 6), (-12, 18, 6), (12, -18, 6), (-12, -18, 6), (0, 0, 0), (0, 5, 5), (-5, 0, 5),
                           (7, 9, 1), (MOST, MOST, MOST), (-MOST, 0, MOST), (10 ** 299, 10 ** 298, 10 ** 298)])

    def test_sqrt(self):
        self.check("sqrt", [(0, 0), (1, 1), (3, 1), (4, 2), (8, 2), (9, 3), (10 ** 298, 10 ** 149),
                            (10 ** 298 - 1, 10 ** 149 - 1), (MOST, 10 ** 150 - 1)])
        self.check_refused("sqrt", NEGATIVE, [(-1,), (-MOST,)])

    def test_base(self):
        self.check("base", [(0, 2, "0"), (5, 2, "101"), (-5, 2, "-101"), (255, 16, "ff"), (35, 36, "z"), (36, 36, "10"),
                            (-1, 36, "-1"), (10, 10, "10"), (MOST, 10, "9" * 300)])
        self.assertEqual(len(self.call("base", -MOST, 2)), 998)
        self.check_refused("base", NO_BASE, [(5, 1), (5, 0), (5, -2), (5, 37), (5, MOST)])

    def test_parse(self):
        self.check("parse", [("101", 2, 5), ("-101", 2, -5), ("ff", 16, 255), ("FF", 16, 255), ("fF", 16, 255),
                             ("z", 36, 35), ("Z", 36, 35), ("0", 2, 0), ("-0", 36, 0), ("00010", 10, 10),
                             ("9" * 300, 10, MOST), ("0" * 999 + "1", 2, 1)])
        texts = [("2", 2), ("", 2), ("-", 10), ("--1", 10), ("+1", 10), (" 1", 10), ("1 ", 10), ("g", 16), ("G", 16),
                 ("0x1", 16), ("1_0", 10), ("\u0661", 10), ("\uff11", 10), ("\u212a", 36), ("\u0131", 36), ("\n", 36),
                 ("@", 36), ("[", 36), ("`", 36), ("{", 36), ("/", 36), (":", 36)]
        self.check_refused("parse", NOT_AN_INTEGER, texts)
        self.check_refused("parse", NO_BASE, [("1", 1), ("1", 37), ("", 0), ("?", -1), ("1", MOST)])
        self.check_refused("parse", OVERFLOW, [("1" + "0" * 300, 10), ("z" * 1000, 36), ("-" + "1" * 999, 2)])

    def test_base_and_parse_go_together(self):
        for base in range(2, 37):
            for number in (0, 1, -1, base - 1, base, -base, base ** 3 + 5, MOST, -MOST):
                self.assertEqual(self.call("parse", self.call("base", number, base), base), number)
                self.assertEqual(self.call("parse", self.call("base", number, base).upper(), base), number)


class RangeTest(BuiltinTest):
    def test_range(self):
        cases = [((3,), [0, 1, 2]), ((0,), []), ((-3,), []), ((2, 5), [2, 3, 4]), ((5, 2), []), ((5, 5), []),
                 ((-2, 2), [-2, -1, 0, 1]), ((MOST - 2, MOST), [MOST - 2, MOST - 1]), ((MOST, -MOST), []),
                 ((-MOST, 3 - MOST), [-MOST, 1 - MOST, 2 - MOST])]
        for values, held in cases:
            many = len(self.store.things)
            ref = self.call("range", *values)
            self.assertEqual((ref, self.shelf.held(ref), len(self.store.things)), (Ref(many), held, many + 1))

    def test_size(self):
        self.assertEqual(self.shelf.held(self.call("range", 1000)), list(range(1000)))
        self.assertEqual(self.shelf.held(self.call("range", -500, 500)), list(range(-500, 500)))
        self.check_refused("range", SIZE, [(1001,), (-500, 501), (MOST,), (-MOST, MOST)])

    def test_wrong_arguments(self):
        self.check_refused("range", arity(2, 0), [()])
        self.check_refused("range", arity(2, 3), [(1, 2, 3)])
        self.check_refused("range", arity(2, 8), [(None,) * 8])
        for kind, value in self.values:
            if kind != "integer":
                self.check_refused("range", WRONG, [(value,), (1, value), (value, 1), (value, value)])


class ChoiceTest(BuiltinTest):
    def test_min_and_max(self):
        cases = [([3, 1, 2], 1, 3), ([5], 5, 5), (["b", "a", "ab"], "a", "b"), (["x"], "x", "x"),
                 ([-1, 0], -1, 0), ([MOST, -MOST], -MOST, MOST), (["", "a"], "", "a"), ([1, 1], 1, 1)]
        for values, least, greatest in cases:
            self.check("min", [(*values, least)])
            self.check("max", [(*values, greatest)])
            parts = self.shelf.list(*values)
            self.check("min", [(parts, least)])
            self.check("max", [(parts, greatest)])
            self.assertEqual(self.shelf.held(parts), values)

    def test_wrong_arguments(self):
        one = self.shelf.list(1)
        for name in ("min", "max"):
            self.check_refused(name, arity(1, 0), [()])
            self.check_refused(name, NOTHING, [(self.shelf.list(),)])
            self.check_refused(name, WRONG, [(1, "a"), ("a", 1), (1, True), (True,), (None,), (False, False), (one, one),
                                             (1, one), (self.shelf.map((1, 1)),), (self.shelf.map(),), (Ref(0),),
                                             (Builtin("min"),), (self.shelf.list(1, "a"),), (self.shelf.list(one),),
                                             (self.shelf.list(None),), (self.shelf.list(1, 2, False),),
                                             (self.shelf.list(), self.shelf.list()), (1, 2, None)])


class AssertTest(BuiltinTest):
    def test_assert(self):
        for kind, value in self.values:
            if value is None or value is False:
                self.assertEqual(self.refused("assert", value, "why\n"), ("AssertionError", "why\n"))
            else:
                self.assertIs(self.call("assert", value, "why"), None)
        self.assertEqual(self.refused("assert", False, ""), ("AssertionError", ""))


class CopyTest(BuiltinTest):
    def test_plain_values(self):
        for kind, value in self.values:
            if kind not in ("list", "map"):
                many = len(self.store.things)
                self.assertEqual(self.call("copy", value), value)
                self.assertEqual(len(self.store.things), many)

    def test_a_list_and_a_map(self):
        instance = self.shelf.instance()
        parts = self.shelf.list(1, "a", instance, None, True)
        copy = self.call("copy", parts)
        self.assertFalse(copy == parts)
        self.assertEqual(self.shelf.held(copy), [1, "a", instance, None, True])
        self.assertIs(self.shelf.held(copy)[4], True)
        table = self.shelf.map((2, "b"), (True, parts), (1, instance))
        copy = self.call("copy", table)
        pairs = self.shelf.held(copy)
        self.assertEqual([repr(key) for key, _ in pairs], ["2", "True", "1"])
        self.assertEqual((pairs[0][1], pairs[2][1]), ("b", instance))
        self.assertFalse(pairs[1][1] == parts)
        self.assertEqual(self.shelf.held(pairs[1][1]), self.shelf.held(parts))

    def test_a_copy_is_its_own(self):
        inner = self.shelf.list(1)
        outer = self.shelf.list(inner)
        copy = self.call("copy", outer)
        self.store.at(inner).held.append(2)
        self.assertEqual(self.shelf.held(self.shelf.held(copy)[0]), [1])

    def test_the_order_of_the_new_objects(self):
        a, b, c, d = self.shelf.list("a"), self.shelf.list("b"), self.shelf.map(("c", 1)), self.shelf.list("d")
        inner, table = self.shelf.list(c, a), self.shelf.map((1, d), (2, b))
        outer = self.shelf.list(inner, table, b)
        many = len(self.store.things)
        self.assertEqual(self.call("copy", outer), Ref(many))
        found = [self.store.things[number] for number in range(many, len(self.store.things))]
        # x, then what it holds (the second list b at last), then what these hold.
        self.assertEqual(len(found), 7)
        self.assertEqual(found[0].held, [Ref(many + 1), Ref(many + 2), Ref(many + 3)])
        self.assertEqual(found[1].held, [Ref(many + 4), Ref(many + 5)])
        self.assertEqual(found[2].pairs(), [(1, Ref(many + 6)), (2, Ref(many + 3))])
        self.assertEqual(found[3].held, ["b"])
        self.assertEqual(found[4].pairs(), [("c", 1)])
        self.assertEqual((found[5].held, found[6].held), (["a"], ["d"]))

    def test_parts_held_twice_and_circles(self):
        inner = self.shelf.list()
        outer = self.shelf.list(inner, inner)
        self.store.at(inner).held.extend([outer, inner])
        many = len(self.store.things)
        copy = self.call("copy", outer)
        self.assertEqual(self.shelf.held(copy), [Ref(many + 1), Ref(many + 1)])
        self.assertEqual(self.shelf.held(Ref(many + 1)), [copy, Ref(many + 1)])
        self.assertEqual(len(self.store.things), many + 2)
        self.assertEqual(self.shelf.held(outer), [inner, inner])

    def test_kinds_of_the_new_objects(self):
        copy = self.call("copy", self.shelf.map((1, self.shelf.list())))
        self.assertIsInstance(self.store.at(copy), Table)
        self.assertIsInstance(self.store.at(self.shelf.held(copy)[0][1]), Parts)

    def test_a_deep_list(self):
        parts = self.shelf.list()
        for _ in range(5000):
            parts = self.shelf.list(parts)
        copy = self.call("copy", parts)
        self.assertIs(self.call("equals", copy, parts), True)


class EqualsTest(BuiltinTest):
    def both(self, x, y, result):
        self.assertIs(self.call("equals", x, y), result)
        self.assertIs(self.call("equals", y, x), result)

    def test_plain_values(self):
        for at, (_, x) in enumerate(self.values):
            for index, (_, y) in enumerate(self.values):
                self.both(x, y, at == index)

    def test_lists(self):
        make = self.shelf.list
        self.both(make(), make(), True)
        self.both(make(1, "a", None), make(1, "a", None), True)
        self.both(make(1, 2), make(2, 1), False)
        self.both(make(1), make(1, 1), False)
        self.both(make(1), make(True), False)
        self.both(make(make(1), make()), make(make(1), make()), True)
        self.both(make(make(1), make(2)), make(make(1), make(3)), False)
        self.both(make(), self.shelf.map(), False)
        self.both(make(self.shelf.instance()), make(self.shelf.instance()), False)

    def test_maps(self):
        make = self.shelf.map
        self.both(make((1, "a"), (2, "b")), make((2, "b"), (1, "a")), True)
        self.both(make((1, "a")), make((True, "a")), False)
        self.both(make((1, "a")), make(("1", "a")), False)
        self.both(make((1, "a")), make((1, "b")), False)
        self.both(make((1, 1)), make((1, True)), False)
        self.both(make((1, 1)), make((1, 1), (2, 2)), False)
        self.both(make((1, self.shelf.list(2))), make((1, self.shelf.list(2))), True)
        self.both(make((None, None)), make(), False)

    def test_circles(self):
        one, other, two = self.shelf.list(), self.shelf.list(), self.shelf.list()
        self.store.at(one).held.append(one)
        self.store.at(other).held.append(other)
        self.store.at(two).held.append(self.shelf.list(two))
        self.both(one, other, True)
        self.both(one, two, True)
        self.both(self.shelf.list(one, 1), self.shelf.list(other, 2), False)
        table, match = self.shelf.map(), self.shelf.map()
        self.store.at(table).put("x", table)
        self.store.at(match).put("x", match)
        self.both(table, match, True)
        self.store.at(match).put("x", one)
        self.both(table, match, False)

    def test_parts_held_many_times(self):
        one, other = self.shelf.list(1), self.shelf.list(1)
        for _ in range(60):
            one, other = self.shelf.list(one, one), self.shelf.list(other, other)
        self.both(one, other, True)
        many = len(self.store.things)
        self.call("copy", one)
        self.assertEqual(len(self.store.things), many + 61)


if __name__ == "__main__":
    unittest.main()
