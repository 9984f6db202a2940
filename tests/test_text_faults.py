"""The one fault of a text that is no program, and the depths: points [12] to [14]."""

import sys
import unittest

from helpers import expression_fault_of, fault_of, unmarked

EXPRESSION = "expected an expression"
NAME = "expected a name"
DEEP = "nested too deeply"
TARGET = "this cannot be assigned to"

MESSAGES = {
    EXPRESSION: [
        "@)", "@else", "1; @}", "@extends", "@,", "@= 1;", "@/ 1;", "@and", "@;", "@in",
        "let x = @;", "let x = @", "if (@) 1;", "if (1) @", "if (1) @let x = 1;", "if (1) @class A { }",
        "if (1) 1; else @", "if (1) 1; else @}", "while (1) @", "while (@", "for (x in @)", "for (x in 1) @",
        "return @}", "return @", "throw @;", "{ @) }", "fun f() { @else }", "f(@,);", "f(1, @);", "f(@;",
        "[@,];", "[1, @];", "[@;", "({@:1});", "({1: @});", "({1: 2, @});", "({@;", "(@);", "a[@];",
        "1 + @;", "1 + @not 2;", "1 == @not 2;", "1 * @+ 2;", "- @not 1;", "not @;", "1 and @;", "1 or @or",
        "a = @;", "-@;", "@catch (x) { }", "@!= 1;", "class A { } @)", "1; @mod", "(1 + @is);",
    ],
    NAME: [
        "let @1 = 2;", "let @this = 2;", "let @", "let @let", "class @{ }", "class @1", "class A extends @{ }",
        "class A extends @this { }", "class A extends @super", "a.@1;", "a.@this;", "a.@", "a.@(1)", "super.@1();",
        "for (@1 in 2) 3;", "for (@)", "try { } catch (@) { }", "try { } catch (@1) { }",
        "fun f(@1) { }", "fun f(@,) { }", "fun f(a, @) { }", "fun f(a, @1) { }", "fun (@this) { };",
        "fun f(@", "class A { @1", "class A { @", "class A { @fun m() { } }", "class A { m() { } @; }",
        "class A { m() { } @", "class A { m() { } @let", "class A { @this() { } }", 'a.@"x"',
    ],
    "expected ;": [
        "1@", "1 @2;", "a @b", "a@}", "let x = 1@", "let x = 1 @let y", "return 1@}", "return 1 @2", "throw 1@)",
        "break@", "break @1;", "continue@}", "continue @else", "1 == 2 @== 3;", "1 < 2 @is 3;", "a@: 1",
        "not 1 == 2 @== 3;", "fun () { }@", "fun () { } @let", "1@, 2;", "this @this", "super.x()@", "1 @{ }",
        "if (1) 2 @else 3;", "x = 1@)", "return fun () { }@}", "1 @not 2;",
    ],
    "expected )": [
        "(1@;", "(1@", "(1 @2);", "(1@, 2)", "if (1@;", "if (1 @{ }", "while (1@", "for (x in 1@;", "for (x in 1@, 2)",
        "try { } catch (x@, y) { }", "try { } catch (x@", "fun f(x @y) { }", "fun f(x@", "fun f(x, y@;",
        "fun (x @= 1) { };", "f(1@;", "f(1 @2)", "f(1, 2@", "a.x(1@]", "super.x(1@]", "f(a == b@== c)",
        "class A { m(x@", "class A { m(x@.",
    ],
    "expected ]": ["a[1@;", "a[1@, 2]", "a[1@", "[1@;", "[1 @2]", "[1, 2@", "[1@)", "[1@: 2]"],
    "expected :": ["({1@});", "({1@, 2});", "({1: 2, 3@});", "({1@", "let x = {a@; }"],
    "expected }": ["({1: 2@);", "({1: 2@: 3});", "({1: 2@;", "({1: 2, 3: 4@", "{@", "{ 1;@", "fun f() {@",
                   "class A { m() { 1; @", "{{}@", "try {@", "while (1) { { } @"],
    "expected (": ["if @1", "if@", "if @{ }", "while @;", "for @x in 1", "for@", "try { } catch @x", "try { } catch@",
                   "fun@", "fun @{ };", "fun @1", "let f = fun @f() { };", "(fun @f() { });", "if (1) fun @f() { }",
                   "fun f@", "fun f @{ }", "class A { m@", "class A { m @{ } }", "super.x@;", "super.x @= 1;",
                   "super.x@.y();", "fun f @= 1;"],
    "expected {": ["try @1;", "try@", "try @(", "fun f() @1;", "fun f()@", "let f = fun (x) @x;", "fun () @;",
                   "try { } catch (x) @1;", "try { } catch (x)@", "class A @1", "class A@", "class A @extend B { }",
                   "class A@;", "class A extends B@", "class A extends B @1", "class A extends B @extends C { }",
                   "class A extends B@.C { }", "class A { m() @; }", "class A { m()@"],
    "expected catch": ["try { } @1;", "try { }@", "try { } @{ }", "try { } @else"],
    "expected in": ["for (x@)", "for (x @of 1)", "for (x@", "for (x @= 1)"],
    "expected .": ["super@;", "super@()", "super @x", "super@[1];", "super@", "super @= 1;"],
    "expected =": ["let x@;", "let x@", "let x @1;", "let x @== 1;", "let x@, y = 1;"],
    TARGET: ["1 @= 2;", "this @= 1;", "(this) @= 1;", "f() @= 1;", "a.x() @= 1;", "super.x() @= 1;", "a + b @= 1;",
             "-a @= 1;", "not a @= 1;", "a and b @= 1;", "a or b @= 1;", "a == b @= 1;", "(a = 1) @= 2;",
             '"a" @= 1;', "null @= 1;", "[] @= 1;", "({}) @= 1;", "fun () { } @= 1;", "let x = 1 @= 2;",
             "a = 1 @= 2;", "if (1 @= 2)", "f(1 @= 2)", "[1 @= 2]", "a[1 @= 2]", "({1 @= 2})", "return 1 @=",
             "1 @= = 2", "for (x in 1 @= 2)", "(a + b) @= 1;", "not (a) @= 1;"],
}


class MessagesTest(unittest.TestCase):
    def check(self, marked, message):
        text, (offset,) = unmarked(marked)
        with self.subTest(marked):
            self.assertEqual(fault_of(text), (offset, message))

    def test_each_message_at_its_place(self):
        for message, texts in MESSAGES.items():
            for marked in texts:
                self.check(marked, message)

    def test_a_fault_of_a_token_has_its_own_message(self):
        self.check("let @%", "this character is not allowed")
        self.check("1 + @% )", "this character is not allowed")
        self.check("{ @%", "this character is not allowed")
        self.check("super@!", "this character is not allowed")
        self.check('f("a@\\q")', "the escape is not known")
        self.check('a.@"x', "the text does not end")
        self.check("fun @!", "this character is not allowed")
        self.check("1 @= 2 %", TARGET)
        self.check("x = @" + "9" * 301, "the number is too great")

    def test_a_fault_of_a_token_behind_another_fault(self):
        self.check("let @= %", NAME)
        self.check('1 @2 "', "expected ;")
        self.check("{ @) %", EXPRESSION)

    def test_a_fault_of_a_token_behind_a_whole_item(self):
        self.check("1; 2; @%", "this character is not allowed")
        self.check("1 @%", "this character is not allowed")


class ExpressionsTest(unittest.TestCase):
    def check(self, marked, message):
        text, (offset,) = unmarked(marked)
        with self.subTest(marked):
            self.assertEqual(expression_fault_of(text), (offset, message))

    def test_the_end(self):
        for marked in ("1@;", "1 @2", "a @)", "a @}", "1 == 2 @== 3", "{}@{}", "fun () { } @a", "a @let"):
            self.check(marked, "expected the end")

    def test_a_fault_of_a_token_instead_of_the_end(self):
        self.check("1 @%", "this character is not allowed")
        self.check('1 + 2@"', "the text does not end")

    def test_others(self):
        self.check("@", EXPRESSION)
        self.check("@;", EXPRESSION)
        self.check("@let x = 1;", EXPRESSION)
        self.check("(1@", "expected )")
        self.check("1 @= 2", TARGET)
        self.check("fun @f() { }", "expected (")

    def test_an_expression_has_the_depth_29(self):
        self.assertIsNone(expression_fault_of("(" * 29 + "1" + ")" * 29))
        self.check("(" * 30 + "@1" + ")" * 30, DEEP)


def repeat(before, inner, after, count):
    return before * count + inner + after * count


# What is nested, and how many of it can be around a thing in a program. The mark
# stands at the first token of what would have a depth less than 0.
BOUNDS = [
    ("let x = ", "(", "1", ")", ";", 29),
    ("", "(", "1", ")", ";", 28),
    ("return ", "(", "1", ")", ";", 28),
    ("throw ", "(", "1", ")", ";", 28),
    ("if (", "(", "1", ")", ") 1;", 28),
    ("while (", "(", "1", ")", ") 1;", 28),
    ("for (x in ", "(", "1", ")", ") 1;", 28),
    ("let x = ", "[", "1", "]", ";", 29),
    ("let x = ", "[1, ", "1", "]", ";", 29),
    ("let x = ", "{", "1", ": 2}", ";", 29),
    ("let x = ", "{1: ", "1", "}", ";", 29),
    ("let x = ", "f(", "1", ")", ";", 29),
    ("let x = ", "f(1, ", "1", ")", ";", 29),
    ("let x = ", "a.m(", "1", ")", ";", 29),
    ("let x = ", "super.m(", "1", ")", ";", 29),
    ("let x = ", "a[", "1", "]", ";", 29),
    ("let x = ", "- ", "1", "", ";", 29),
    ("let x = ", "not ", "1", "", ";", 29),
    ("let x = ", "a = ", "1", "", ";", 29),
    ("", "a[0] = ", "1", "", ";", 28),
    ("let x = 1 and ", "not ", "1", "", ";", 29),
    ("let x = 1 * ", "-", "1", "", ";", 29),
    ("", "{", "", "}", "", 30),
    ("{" * 20, "fun f() {", "", "}", "}" * 20, 10),
    ("{" * 22, "class A { m() {", "", "} }", "}" * 22, 8),
    ("", "if (1) ", "break;", "", "", 29),
    ("", "if (1) { } else ", "break;", "", "", 29),
    ("", "while (1) ", "break;", "", "", 29),
    ("", "for (x in 1) ", "break;", "", "", 29),
]


class DepthsTest(unittest.TestCase):
    def check_fault(self, marked, message=DEEP):
        text, (offset,) = unmarked(marked)
        with self.subTest(marked):
            self.assertEqual(fault_of(text), (offset, message))

    def check_tree(self, text):
        with self.subTest(text):
            self.assertIsNone(fault_of(text))

    def test_the_bound_of_each_kind(self):
        for start, before, inner, after, end, bound in BOUNDS:
            self.check_tree(start + repeat(before, inner, after, bound) + end)
            text = start + repeat(before, inner, after, bound + 1) + end
            with self.subTest(text):
                self.assertEqual(fault_of(text)[1], DEEP)

    def test_the_offset_of_each_kind(self):
        self.check_fault("let x = " + "(" * 30 + "@1" + ")" * 30 + ";")
        self.check_fault("(" * 29 + "@1" + ")" * 29 + ";")
        self.check_fault("let x = " + "[" * 30 + "@1" + "]" * 30 + ";")
        self.check_fault("let x = " + "{" * 30 + "@1" + ":1}" * 30 + ";")
        self.check_fault("let x = " + "f(" * 30 + "@1" + ")" * 30 + ";")
        self.check_fault("let x = " + "-" * 30 + "@1;")
        self.check_fault("let x = " + "not " * 30 + "@1;")
        self.check_fault("let x = " + "a = " * 30 + "@1;")
        self.check_fault("{" * 30 + "@{" + "}" * 31)
        self.check_fault("{" * 20 + "fun f() {" * 10 + "fun f() @{" + "}" * 31)
        self.check_fault("{" * 22 + "class A { m() {" * 8 + "class A { m() @{" + "} }" * 31)
        self.check_fault("if (1) " * 28 + "if ((@1)) 1;")
        self.check_fault("if (1) " * 29 + "if (@1) 1;")
        self.check_fault("if (1) " * 29 + "@1;")
        self.check_fault("if (1) " * 29 + "while (@1) break;")
        self.check_fault("{" * 30 + "@break;")

    def test_empty_collections_have_nothing_in_them(self):
        for inner in ("[]", "{}", "f()", "a.m()", "super.m()"):
            self.check_tree("let x = " + "(" * 29 + inner + ")" * 29 + ";")

    def test_bodies_of_functions(self):
        self.check_tree("let x = " + "(" * 28 + "fun () { }" + ")" * 28 + ";")
        self.check_fault("let x = " + "(" * 29 + "fun () @{ }" + ")" * 29 + ";")
        self.check_fault("let x = " + "(" * 28 + "fun () { @1; }" + ")" * 28 + ";")
        self.check_fault("let x = " + "(" * 28 + "fun () { let x = @1; }" + ")" * 28 + ";")
        self.check_tree("let x = " + "(" * 27 + "fun () { let x = 1; }" + ")" * 27 + ";")
        self.check_fault("let x = " + "(" * 27 + "fun () { @1; }" + ")" * 27 + ";")
        self.check_tree("let x = " + "(" * 26 + "fun () { 1; }" + ")" * 26 + ";")

    def test_what_follows_not_and_minus(self):
        self.check_tree("let x = " + "(" * 28 + "not 1" + ")" * 28 + ";")
        self.check_fault("let x = " + "(" * 29 + "not @1" + ")" * 29 + ";")
        self.check_fault("let x = " + "(" * 29 + "-@1" + ")" * 29 + ";")
        self.check_fault("let x = " + "(" * 28 + "-a[@1]" + ")" * 28 + ";")
        self.check_tree("let x = " + "(" * 28 + "-a" + ")" * 28 + ";")
        self.check_tree("let x = " + "(" * 28 + "-a + b[1]" + ")" * 28 + ";")
        self.check_fault("let x = " + "(" * 29 + "a = @1" + ")" * 29 + ";")

    def test_everything_else_has_the_same_depth(self):
        deep = "a.x().y + b * c - d == e and f or g"
        self.check_tree("let x = " + "(" * 29 + deep + ")" * 29 + ";")

    def test_tries(self):
        self.check_tree("try {" * 15 + "} catch (x) { }" * 15)
        self.check_fault("try {" * 15 + "@try { } catch (x) { }" + "} catch (x) { }" * 15)
        self.check_tree("if (1) " * 28 + "try { } catch (x) { }")
        self.check_fault("if (1) " * 29 + "try @{ } catch (x) { }")
        self.check_fault("if (1) " * 28 + "try { @1; } catch (x) { }")
        self.check_fault("if (1) " * 28 + "try { } catch (x) { @1; }")
        self.check_fault("if (1) " * 27 + "try { } catch (x) { @1; }")
        self.check_tree("if (1) " * 26 + "try { 1; } catch (x) { 1; }")

    def test_a_block_as_a_statement(self):
        self.check_tree("if (1) " * 29 + "{ }")
        self.check_tree("if (1) " * 29 + "{ class A { } }")
        self.check_fault("{" * 15 + "if (1) {" * 7 + "if (@1) { }")
        self.check_tree("{" * 14 + "if (1) {" * 8 + "}" * 22)

    def test_statements_with_expressions(self):
        for head in ("return ", "throw ", "if (", "while (", "for (x in "):
            self.check_fault("if (1) " * 29 + head + "@1")
        self.check_tree("if (1) " * 29 + "return;")
        self.check_fault("if (1) " * 29 + "return @}")

    def test_nested_too_deeply_comes_first(self):
        self.check_fault("if (1) " * 29 + "try @1")
        self.check_fault("if (1) " * 29 + "throw @;")
        self.check_fault("{" * 30 + "fun f() @1")
        self.check_fault("let x = " + "(" * 30 + "@)")
        self.check_fault("let x = " + "f(" * 30 + "@,")
        self.check_fault("{" * 30 + "@else")

    def test_a_fault_of_a_token_comes_before_nested_too_deeply(self):
        self.check_fault("let x = " + "(" * 30 + "@%", "this character is not allowed")
        self.check_fault("{" * 30 + "@%", "this character is not allowed")
        self.check_fault("{" * 30 + "let x = @%", "this character is not allowed")

    def test_items_of_the_depth_0(self):
        inner = "{" * 30
        for first in ("1;", ";", ")", "else", "{", "fun () { };", "fun %", "fun", "if", "break;", "return;",
                      "try", "x", "-", "not", "=", ",", "]", "in", "extends", "this", '"a"', "super"):
            self.check_fault(inner + "@" + first + "}" * 30)
        self.check_fault(inner + "let x = @1;")
        self.check_fault(inner + "class A { m() @{ } }")
        self.check_fault(inner + "fun f() @{ }")
        self.check_tree(inner + "class A { } class B extends A { }" + "}" * 30)
        self.check_fault(inner + "class A { } @1;")
        self.check_fault(inner + "let @1", NAME)
        self.check_fault(inner + "class @1", NAME)
        self.check_fault(inner + "fun f@", "expected (")
        self.check_fault(inner + "@", "expected }")


    def test_much_within_each_other(self):
        """The parser needs no more than a few hundred calls within each other."""
        inner = "1"
        for _ in range(29):
            inner = f"a or b and c == d + e * f(1, {inner})"
        self.assertEqual(fault_of(f"let x = {inner};"), (0, DEEP))
        limit = sys.getrecursionlimit()
        sys.setrecursionlimit(600)
        try:
            self.assertEqual(fault_of(f"let x = {inner};"), (0, DEEP))
        finally:
            sys.setrecursionlimit(limit)


class ChainsTest(unittest.TestCase):
    """Chains of each kind make terms lie within many others."""

    CHAINS = [
        lambda many: "a" + " + a" * many,
        lambda many: "a" + " * a" * many,
        lambda many: "a" + " and a" * many,
        lambda many: "a" + " or a" * many,
        lambda many: "a" + "()" * many,
        lambda many: "a" + "(1)" * many,
        lambda many: "a" + "[0]" * many,
        lambda many: "a" + ".x" * many,
        lambda many: "a" + ".x()" * many,
        lambda many: "a" + ".x[0]()" * (many // 3) + ".x" * (many - many // 3 * 3),
        lambda many: "a + a" + " + a * b" * (many - 3) + " - a < a",
        lambda many: "a" + ".x" * (many - 1) + ".x = 1",
    ]

    def test_in_an_expression(self):
        for chain in self.CHAINS:
            with self.subTest(chain(3)):
                self.assertIsNone(expression_fault_of(chain(59)))
                self.assertEqual(expression_fault_of(chain(60)), (0, DEEP))

    def test_in_a_program(self):
        for chain in self.CHAINS:
            with self.subTest(chain(3)):
                self.assertIsNone(fault_of(f" {chain(57)};"))
                self.assertEqual(fault_of(f" {chain(58)};"), (0, DEEP))
                self.assertIsNone(fault_of(f"1; let x = {chain(57)};"))
                self.assertEqual(fault_of(f"1; let x = {chain(58)};"), (0, DEEP))

    def test_within_groups_and_classes(self):
        # Around the chain: the program, the group, the class, the method, its body, the statement.
        for many, fault in ((53, None), (54, (0, DEEP))):
            text = "class A { m() { a" + ".x" * many + "; } }"
            self.assertEqual(fault_of(text), fault)

    def test_very_long_chains(self):
        for chain in self.CHAINS:
            self.assertEqual(fault_of(chain(20000) + ";"), (0, DEEP))

    def test_a_fault_behind_a_chain_comes_first(self):
        for chain in self.CHAINS:
            with self.subTest(chain(3)):
                text = chain(100)
                self.assertEqual(fault_of(text), (len(text), "expected ;"))
                self.assertEqual(fault_of(text + ";)"), (len(text) + 1, EXPRESSION))
                self.assertEqual(fault_of(text + ";!"), (len(text) + 1, "this character is not allowed"))
                self.assertEqual(expression_fault_of(text + ";"), (len(text), "expected the end"))
                self.assertEqual(expression_fault_of(text + "!"), (len(text), "this character is not allowed"))


if __name__ == "__main__":
    unittest.main()
