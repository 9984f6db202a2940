import unittest

from livequill.text.parser import parse, parse_expression
from livequill.text.trees import parts_of, without_offsets

A, B, C = ("name", 1, "a"), ("name", 2, "b"), ("name", 3, "c")
BLOCK, OTHER = ("block", ()), ("block", (("do", A),))
FUNCTION = ("function", 4, 7, ("x",), BLOCK)
METHOD = ("function", 6, 8, ("this", "y"), OTHER)
KIN = ("class", 5, "K", B, (("m", FUNCTION), ("n", METHOD)))

# Terms of all kinds, their parts, and the terms without offsets.
ZERO_A, ZERO_B, ZERO_C = ("name", 0, "a"), ("name", 0, "b"), ("name", 0, "c")
ZERO_OTHER = ("block", (("do", ZERO_A),))
ZERO_FUNCTION = ("function", 0, 7, ("x",), BLOCK)
ZERO_METHOD = ("function", 0, 8, ("this", "y"), ZERO_OTHER)
ZERO_KIN = ("class", 0, "K", ZERO_B, (("m", ZERO_FUNCTION), ("n", ZERO_METHOD)))
TERMS = [
    (("null",), [], ("null",)),
    (("bool", True), [], ("bool", True)),
    (("int", 12), [], ("int", 12)),
    (("text", "a"), [], ("text", "a")),
    (A, [], ZERO_A),
    (("assign", 4, "x", A), [A], ("assign", 0, "x", ZERO_A)),
    (("set_index", 4, A, B, C), [A, B, C], ("set_index", 0, ZERO_A, ZERO_B, ZERO_C)),
    (("set_field", 4, A, "x", B), [A, B], ("set_field", 0, ZERO_A, "x", ZERO_B)),
    (("unary", 4, "-", A), [A], ("unary", 0, "-", ZERO_A)),
    (("binary", 4, "+", A, B), [A, B], ("binary", 0, "+", ZERO_A, ZERO_B)),
    (("both", A, B), [A, B], ("both", ZERO_A, ZERO_B)),
    (("either", A, B), [A, B], ("either", ZERO_A, ZERO_B)),
    (("list", (A, B)), [A, B], ("list", (ZERO_A, ZERO_B))),
    (("list", ()), [], ("list", ())),
    (("map", 4, ((A, B), (C, A))), [A, B, C, A], ("map", 0, ((ZERO_A, ZERO_B), (ZERO_C, ZERO_A)))),
    (("index", 4, A, B), [A, B], ("index", 0, ZERO_A, ZERO_B)),
    (("field", 4, A, "x"), [A], ("field", 0, ZERO_A, "x")),
    (("call", 4, A, (B, C)), [A, B, C], ("call", 0, ZERO_A, (ZERO_B, ZERO_C))),
    (("invoke", 4, A, "x", (B,)), [A, B], ("invoke", 0, ZERO_A, "x", (ZERO_B,))),
    (("super", 4, "x", (A, B)), [A, B], ("super", 0, "x", (ZERO_A, ZERO_B))),
    (FUNCTION, [BLOCK], ZERO_FUNCTION),
    (("block", (("do", A), ("break", 9))), [("do", A), ("break", 9)], ("block", (("do", ZERO_A), ("break", 0)))),
    (("let", 4, "x", A), [A], ("let", 0, "x", ZERO_A)),
    (("group", ((3, "f", FUNCTION), (4, "K", KIN))), [FUNCTION, KIN],
     ("group", ((0, "f", ZERO_FUNCTION), (0, "K", ZERO_KIN)))),
    (KIN, [B, FUNCTION, METHOD], ZERO_KIN),
    (("class", 5, "K", None, ()), [], ("class", 0, "K", None, ())),
    (("do", A), [A], ("do", ZERO_A)),
    (("if", 4, A, BLOCK, OTHER), [A, BLOCK, OTHER], ("if", 0, ZERO_A, BLOCK, ZERO_OTHER)),
    (("if", 4, A, BLOCK, None), [A, BLOCK], ("if", 0, ZERO_A, BLOCK, None)),
    (("while", 4, A, BLOCK), [A, BLOCK], ("while", 0, ZERO_A, BLOCK)),
    (("for", 4, 5, "x", A, OTHER), [A, OTHER], ("for", 0, 0, "x", ZERO_A, ZERO_OTHER)),
    (("break", 4), [], ("break", 0)),
    (("continue", 4), [], ("continue", 0)),
    (("return", 4, A), [A], ("return", 0, ZERO_A)),
    (("return", 4, ("null",)), [("null",)], ("return", 0, ("null",))),
    (("throw", 4, A), [A], ("throw", 0, ZERO_A)),
    (("try", 4, BLOCK, 9, "x", OTHER), [BLOCK, OTHER], ("try", 0, BLOCK, 0, "x", ZERO_OTHER)),
]


class TreesTest(unittest.TestCase):
    def test_parts(self):
        for term, parts, _ in TERMS:
            with self.subTest(term):
                self.assertEqual(parts_of(term), parts)

    def test_parts_are_a_new_list(self):
        term = ("list", (A, B))
        parts_of(term).clear()
        self.assertEqual(parts_of(term), [A, B])

    def test_without_offsets(self):
        for term, _, bare in TERMS:
            with self.subTest(term):
                self.assertEqual(without_offsets(term), bare)
                self.assertIsInstance(without_offsets(term), tuple)

    def test_alike(self):
        first, second = parse("fun f(x) { return x; } f(1);"), parse(" fun f(x) {\nreturn (x);}\nf( 1 );")
        self.assertNotEqual(first, second)
        self.assertEqual(without_offsets(first), without_offsets(second))

    def test_numbers_are_no_offsets(self):
        self.assertEqual(without_offsets(parse_expression("12")), ("int", 12))
        self.assertEqual(without_offsets(parse_expression("fun () { }", first=3))[2], 3)

    def test_deep_terms(self):
        term = parse_expression("a" + ".x" * 59)
        many = 0
        while parts_of(term):
            (term,) = parts_of(term)
            many += 1
        self.assertEqual(many, 59)
        without_offsets(parse_expression("a" + ".x" * 59))


if __name__ == "__main__":
    unittest.main()
