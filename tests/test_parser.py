"""The trees of texts: points [11], [12] and [15]."""

import unittest

from helpers import expression_fault_of, item_of, items_of
from livequill.text.parser import parse, parse_expression

A = ("name", 0, "a")


class LeavesTest(unittest.TestCase):
    def test_literals(self):
        self.assertEqual(parse_expression("null"), ("null",))
        self.assertEqual(parse_expression("true"), ("bool", True))
        self.assertEqual(parse_expression("false"), ("bool", False))
        self.assertEqual(parse_expression("012"), ("int", 12))
        self.assertEqual(parse_expression(r'"a\n"'), ("text", "a\n"))

    def test_booleans_are_booleans(self):
        self.assertIs(parse_expression("true")[1], True)
        self.assertIs(parse_expression("false")[1], False)

    def test_names(self):
        self.assertEqual(parse_expression(" x"), ("name", 1, "x"))
        self.assertEqual(parse_expression("  this"), ("name", 2, "this"))


class AssignmentTest(unittest.TestCase):
    def test_names(self):
        self.assertEqual(parse_expression(" a = 1"), ("assign", 1, "a", ("int", 1)))

    def test_parts(self):
        self.assertEqual(parse_expression("a [1] = 2"), ("set_index", 2, A, ("int", 1), ("int", 2)))

    def test_fields(self):
        self.assertEqual(parse_expression("a .x = 2"), ("set_field", 2, A, "x", ("int", 2)))
        self.assertEqual(
            parse_expression("this.x = 2"), ("set_field", 4, ("name", 0, "this"), "x", ("int", 2)))

    def test_parentheses_around_the_target(self):
        self.assertEqual(parse_expression("((a)) = 1"), ("assign", 2, "a", ("int", 1)))
        self.assertEqual(parse_expression("(a.x) = 1"), ("set_field", 2, ("name", 1, "a"), "x", ("int", 1)))
        self.assertEqual(
            parse_expression("(a[0]) = 1"), ("set_index", 2, ("name", 1, "a"), ("int", 0), ("int", 1)))

    def test_from_right_to_left(self):
        self.assertEqual(
            parse_expression("a = b = 1"), ("assign", 0, "a", ("assign", 4, "b", ("int", 1))))

    def test_a_chain_of_suffixes(self):
        inner = ("index", 4, ("call", 2, A, ()), ("int", 0))
        self.assertEqual(parse_expression("a ()[0].x = 1"), ("set_field", 7, inner, "x", ("int", 1)))


class OperatorsTest(unittest.TestCase):
    def test_unary(self):
        self.assertEqual(parse_expression(" -a"), ("unary", 1, "-", ("name", 2, "a")))
        self.assertEqual(parse_expression("not a"), ("unary", 0, "not", ("name", 4, "a")))
        self.assertEqual(
            parse_expression("- -1"), ("unary", 0, "-", ("unary", 2, "-", ("int", 1))))
        self.assertEqual(
            parse_expression("not not 1"), ("unary", 0, "not", ("unary", 4, "not", ("int", 1))))

    def test_binary(self):
        for operator in "+ - * / mod == != < <= > >= is".split():
            with self.subTest(operator):
                self.assertEqual(
                    parse_expression(f"a {operator} 1"), ("binary", 2, operator, A, ("int", 1)))

    def test_and_or(self):
        self.assertEqual(parse_expression("a and 1"), ("both", A, ("int", 1)))
        self.assertEqual(parse_expression("a or 1"), ("either", A, ("int", 1)))

    def test_levels_go_from_left_to_right(self):
        one, two, three = ("int", 1), ("int", 2), ("int", 3)
        for pair in ("+ +", "+ -", "- +", "* /", "/ mod", "mod *"):
            first, second = pair.split()
            with self.subTest(pair):
                left = ("binary", 2, first, one, two)
                self.assertEqual(
                    parse_expression(f"1 {first} 2 {second} 3"),
                    ("binary", 5 + len(first), second, left, three))
        self.assertEqual(parse_expression("1 and 2 and 3"), ("both", ("both", one, two), three))
        self.assertEqual(parse_expression("1 or 2 or 3"), ("either", ("either", one, two), three))

    def test_each_level_binds_more_than_the_one_before(self):
        one, two, three = ("int", 1), ("int", 2), ("int", 3)
        self.assertEqual(parse_expression("1 or 2 and 3"), ("either", one, ("both", two, three)))
        self.assertEqual(parse_expression("1 and 2 or 3"), ("either", ("both", one, two), three))
        self.assertEqual(
            parse_expression("1 and 2 < 3"), ("both", one, ("binary", 8, "<", two, three)))
        self.assertEqual(
            parse_expression("1 < 2 and 3"), ("both", ("binary", 2, "<", one, two), three))
        self.assertEqual(
            parse_expression("1 < 2 + 3"), ("binary", 2, "<", one, ("binary", 6, "+", two, three)))
        self.assertEqual(
            parse_expression("1 + 2 < 3"), ("binary", 6, "<", ("binary", 2, "+", one, two), three))
        self.assertEqual(
            parse_expression("1 + 2 * 3"), ("binary", 2, "+", one, ("binary", 6, "*", two, three)))
        self.assertEqual(
            parse_expression("1 * 2 + 3"), ("binary", 6, "+", ("binary", 2, "*", one, two), three))
        self.assertEqual(
            parse_expression("-1 * 2"), ("binary", 3, "*", ("unary", 0, "-", one), two))

    def test_each_comparison_has_one_level(self):
        sum_of_two = ("binary", 2, "+", ("int", 1), ("int", 2))
        for operator in "== != < <= > >= is".split():
            with self.subTest(operator):
                self.assertEqual(parse_expression(f"1 + 2 {operator} 3"),
                                 ("binary", 6, operator, sum_of_two, ("int", 3)))
                for other in "== != < <= > >= is".split():
                    text = f"1 {operator} 2 {other} 3"
                    self.assertEqual(expression_fault_of(text), (text.index("2") + 2, "expected the end"))

    def test_not_takes_a_comparison(self):
        compared = ("binary", 6, "==", ("int", 1), ("int", 2))
        self.assertEqual(parse_expression("not 1 == 2"), ("unary", 0, "not", compared))
        self.assertEqual(
            parse_expression("not 1 and 2"), ("both", ("unary", 0, "not", ("int", 1)), ("int", 2)))
        self.assertEqual(
            parse_expression("1 and not 2 or 3"),
            ("either", ("both", ("int", 1), ("unary", 6, "not", ("int", 2))), ("int", 3)))

    def test_minus_takes_its_suffixes(self):
        self.assertEqual(
            parse_expression("-a.x"), ("unary", 0, "-", ("field", 2, ("name", 1, "a"), "x")))

    def test_parentheses_have_no_term(self):
        self.assertEqual(parse_expression("((1))"), ("int", 1))
        self.assertEqual(
            parse_expression("1 * (2 + 3)"),
            ("binary", 2, "*", ("int", 1), ("binary", 7, "+", ("int", 2), ("int", 3))))


class SuffixesTest(unittest.TestCase):
    def test_collections(self):
        self.assertEqual(parse_expression("[]"), ("list", ()))
        self.assertEqual(parse_expression("[1, 2]"), ("list", (("int", 1), ("int", 2))))
        self.assertEqual(parse_expression(" {}"), ("map", 1, ()))
        self.assertEqual(
            parse_expression("{1: 2, 3: 4}"),
            ("map", 0, ((("int", 1), ("int", 2)), (("int", 3), ("int", 4)))))

    def test_parts_and_fields(self):
        self.assertEqual(parse_expression("a [1]"), ("index", 2, A, ("int", 1)))
        self.assertEqual(parse_expression("a .x"), ("field", 2, A, "x"))

    def test_calls(self):
        self.assertEqual(parse_expression("a ()"), ("call", 2, A, ()))
        self.assertEqual(parse_expression("a (1, 2)"), ("call", 2, A, (("int", 1), ("int", 2))))
        self.assertEqual(parse_expression("a .x (1)"), ("invoke", 2, A, "x", (("int", 1),)))
        self.assertEqual(parse_expression(" super . x (1)"), ("super", 1, "x", (("int", 1),)))

    def test_parentheses_around_what_is_called(self):
        field = ("field", 2, ("name", 1, "a"), "x")
        self.assertEqual(parse_expression("(a.x)(1)"), ("call", 5, field, (("int", 1),)))
        self.assertEqual(parse_expression("(a)()"), ("call", 3, ("name", 1, "a"), ()))

    def test_chains(self):
        self.assertEqual(
            parse_expression("a.x(1)[2](3).y"),
            ("field", 12, ("call", 9, ("index", 6, ("invoke", 1, A, "x", (("int", 1),)), ("int", 2)),
                           (("int", 3),)), "y"))

    def test_a_primary_of_every_kind_takes_suffixes(self):
        for text, term in (
                ("1", ("int", 1)), ('"a"', ("text", "a")), ("null", ("null",)), ("[]", ("list", ())),
                ("{}", ("map", 0, ())), ("super.m()", ("super", 0, "m", ())),
                ("fun () { }", ("function", 0, 1, (), ("block", ())))):
            with self.subTest(text):
                self.assertEqual(parse_expression(text + ".x"), ("field", len(text), term, "x"))


class FunctionsTest(unittest.TestCase):
    def test_functions(self):
        self.assertEqual(
            parse_expression(" fun (x, y) { }"), ("function", 1, 1, ("x", "y"), ("block", ())))
        self.assertEqual(parse_expression("fun(){}"), ("function", 0, 1, (), ("block", ())))

    def test_numbers_from_a_given_one_on(self):
        term = parse_expression("[fun () { fun () { }; }, fun () { }]", first=5)
        outer, last = term[1]
        self.assertEqual((outer[2], outer[4][1][0][1][2], last[2]), (5, 6, 7))

    def test_numbers_in_the_order_of_the_offsets(self):
        text = "fun f() { fun g() { } } class A { m() { let h = fun () { }; } n() { } } f(fun () { });"
        group, call = items_of(text)
        (_, _, f), (_, _, kin) = group[1]
        g = f[4][1][0][1][0][2]
        (_, m), (_, n) = kin[4]
        h = m[4][1][0][3]
        last = call[1][3][0]
        self.assertEqual([term[2] for term in (f, g, m, h, n, last)], [1, 2, 3, 4, 5, 6])
        self.assertEqual([term[1] for term in (f, g, m, h, n, last)], [0, 10, 34, 48, 62, 74])


class ItemsTest(unittest.TestCase):
    def test_programs(self):
        self.assertEqual(parse(""), ("block", ()))
        self.assertEqual(parse(" // nothing\n"), ("block", ()))

    def test_let(self):
        self.assertEqual(item_of("let  x = 1;"), ("let", 5, "x", ("int", 1)))

    def test_groups(self):
        text = "fun f() { } class A { } fun g(x) { } 1; fun h() { }"
        f = (4, "f", ("function", 0, 1, (), ("block", ())))
        kin = (18, "A", ("class", 12, "A", None, ()))
        g = (28, "g", ("function", 24, 2, ("x",), ("block", ())))
        h = (44, "h", ("function", 40, 3, (), ("block", ())))
        self.assertEqual(
            items_of(text), (("group", (f, kin, g)), ("do", ("int", 1)), ("group", (h,))))

    def test_classes(self):
        text = "class A extends B { init(x) { } m() { } }"
        init = ("function", 20, 1, ("this", "x"), ("block", ()))
        method = ("function", 32, 2, ("this",), ("block", ()))
        kin = ("class", 0, "A", ("name", 16, "B"), (("init", init), ("m", method)))
        self.assertEqual(item_of(text), ("group", ((6, "A", kin),)))

    def test_fun_and_a_name_begin_a_member_only_as_an_item(self):
        self.assertEqual(item_of("fun f() { }")[0], "group")
        self.assertEqual(item_of("fun () { };"), ("do", ("function", 0, 1, (), ("block", ()))))
        self.assertEqual(item_of("{ fun f() { } }")[1][0][0], "group")

    def test_a_statement_behind_a_member(self):
        self.assertEqual(len(items_of("fun f() { } (1);")), 2)


class StatementsTest(unittest.TestCase):
    def test_expressions(self):
        self.assertEqual(item_of("a;"), ("do", A))

    def test_blocks(self):
        self.assertEqual(item_of("{ }"), ("block", ()))
        self.assertEqual(item_of("{1; {}}"), ("block", (("do", ("int", 1)), ("block", ()))))

    def test_if(self):
        one, two = ("do", ("int", 1)), ("do", ("int", 2))
        self.assertEqual(item_of(" if (true) 1;"), ("if", 1, ("bool", True), one, None))
        self.assertEqual(item_of("if (true) 1; else 2;"), ("if", 0, ("bool", True), one, two))
        self.assertEqual(item_of("if (true) { } else 2;"), ("if", 0, ("bool", True), ("block", ()), two))

    def test_an_empty_block_behind_else(self):
        one = ("do", ("int", 1))
        self.assertEqual(item_of("if (null) 1; else { }"), ("if", 0, ("null",), one, None))
        self.assertEqual(
            item_of("if (null) 1; else {{}}"), ("if", 0, ("null",), one, ("block", (("block", ()),))))

    def test_else_belongs_to_the_nearest_if(self):
        inner = ("if", 9, ("int", 2), ("do", ("int", 3)), ("do", ("int", 4)))
        self.assertEqual(item_of("if (1)   if (2) 3; else 4;"), ("if", 0, ("int", 1), inner, None))

    def test_else_behind_an_else(self):
        inner = ("if", 7, ("int", 2), ("do", ("int", 3)), None)
        self.assertEqual(
            item_of("if (1) if (2) 3; else { } else 4;"),
            ("if", 0, ("int", 1), inner, ("do", ("int", 4))))

    def test_else_behind_loops(self):
        inner = ("if", 17, ("int", 2), ("do", ("int", 3)), ("do", ("int", 4)))
        loop = ("while", 7, ("int", 0), inner)
        self.assertEqual(
            item_of("if (1) while (0) if (2) 3; else 4;"), ("if", 0, ("int", 1), loop, None))

    def test_while(self):
        self.assertEqual(item_of(" while (a) 1;"), ("while", 1, ("name", 8, "a"), ("do", ("int", 1))))

    def test_for(self):
        self.assertEqual(
            item_of(" for ( x in a) 1;"), ("for", 1, 7, "x", ("name", 12, "a"), ("do", ("int", 1))))

    def test_leaving(self):
        self.assertEqual(item_of(" break;"), ("break", 1))
        self.assertEqual(item_of(" continue ;"), ("continue", 1))
        self.assertEqual(item_of(" return 1;"), ("return", 1, ("int", 1)))
        self.assertEqual(item_of(" return;"), ("return", 1, ("null",)))
        self.assertEqual(item_of(" throw 1;"), ("throw", 1, ("int", 1)))

    def test_try(self):
        self.assertEqual(
            item_of(" try { } catch ( x) {1;}"),
            ("try", 1, ("block", ()), 17, "x", ("block", (("do", ("int", 1)),))))

    def test_a_map_in_parentheses_begins_a_statement(self):
        self.assertEqual(item_of("({});"), ("do", ("map", 1, ())))

    def test_blocks_end_without_a_semicolon(self):
        self.assertEqual([item[0] for item in items_of("{} if (1) {} while (1) {} 1;")],
                         ["block", "if", "while", "do"])


if __name__ == "__main__":
    unittest.main()
