"""The canonical text: points [16] and [17]."""

import re
import unittest

from livequill.errors import InvalidText
from livequill.text.parser import parse, parse_expression
from livequill.text.printer import printed, printed_expression
from livequill.text.tokens import tokens_of
from livequill.text.trees import without_offsets
from samples import trees


class PrinterTest(unittest.TestCase):
    def check(self, text, *lines):
        """The text has these lines as its canonical text, which is its own canonical text."""
        canonical = "".join([line + "\n" for line in lines])
        with self.subTest(text):
            self.assertEqual(printed(parse(text)), canonical)
            self.assertEqual(printed(parse(canonical)), canonical)
            self.assertEqual(without_offsets(parse(canonical)), without_offsets(parse(text)))

    def check_expression(self, text, canonical=None):
        with self.subTest(text):
            self.assertEqual(printed_expression(parse_expression(text)), canonical or text)


class GapsTest(PrinterTest):
    def test_the_empty_program(self):
        self.check("")
        self.check(" // nothing")

    def test_items(self):
        self.check("let x=1;let y=x;print(x);", "let x = 1;", "let y = x;", "print(x);")

    def test_groups(self):
        self.check("fun f(x,y){return x;} fun g(){} class A{}class B extends A{m(){}n(x){x;}}",
                   "fun f(x, y) {", "  return x;", "}", "fun g() { }", "class A { }", "class B extends A {",
                   "  m() { }", "  n(x) {", "    x;", "  }", "}")

    def test_blocks(self):
        self.check("{}", "{ }")
        self.check("{{}1;{2;}}", "{", "  { }", "  1;", "  {", "    2;", "  }", "}")

    def test_if(self):
        self.check("if(a)b;", "if (a) b;")
        self.check("if(a)b;else c;", "if (a) b; else c;")
        self.check("if(a){b;}else{c;}", "if (a) {", "  b;", "} else {", "  c;", "}")
        self.check("if(a){}else if(b)c;else{d;}", "if (a) { } else if (b) c; else {", "  d;", "}")

    def test_loops(self):
        self.check("while(a)b;", "while (a) b;")
        self.check("while(a){b;}", "while (a) {", "  b;", "}")
        self.check("while(a){}", "while (a) { }")
        self.check("for(x in a)for(y in b)break;", "for (x in a) for (y in b) break;")
        self.check("for(x in a){continue;}", "for (x in a) {", "  continue;", "}")

    def test_leaving(self):
        self.check("break ;continue ;", "break;", "continue;")
        self.check("return a;return(a);return [1];return-1;", "return a;", "return a;", "return [1];", "return -1;")
        self.check("return;return null;return (null);", "return;", "return;", "return;")
        self.check("throw(a);throw{};", "throw a;", "throw {};")

    def test_try(self):
        self.check("try{a;}catch(x){b;}", "try {", "  a;", "} catch (x) {", "  b;", "}")
        self.check("try{}catch(x){}", "try { } catch (x) { }")

    def test_functions_in_expressions(self):
        self.check("let f=fun(x,y){return fun(){};};", "let f = fun (x, y) {", "  return fun () { };", "};")
        self.check("{f(1,fun(){2;},{1:fun(x){3;}});}", "{", "  f(1, fun () {", "    2;", "  }, {1: fun (x) {",
                   "    3;", "  }});", "}")
        self.check("fun(){}();", "fun () { }();")

    def test_classes_in_blocks(self):
        self.check("fun f(){class A{m(){if(a){1;}}}}", "fun f() {", "  class A {", "    m() {", "      if (a) {",
                   "        1;", "      }", "    }", "  }", "}")

    def test_operators(self):
        for operator in "+ - * / mod == != < <= > >= is and or".split():
            self.check_expression(f"a  {operator}\nb", f"a {operator} b")
        self.check_expression("- a", "-a")
        self.check_expression("- - a", "--a")
        self.check_expression("not(not(a))", "not not a")
        self.check_expression("a=b=c", "a = b = c")
        self.check_expression("a [ 1 ]=b . c=2", "a[1] = b.c = 2")

    def test_suffixes(self):
        self.check_expression("[ 1,2 ]", "[1, 2]")
        self.check_expression("[ ]", "[]")
        self.check_expression("{ }", "{}")
        self.check_expression("{1:2,a:[b]}", "{1: 2, a: [b]}")
        self.check_expression("f ( 1,2 ) ( )", "f(1, 2)()")
        self.check_expression("a . x ( 1,b ) [ 0 ] . y", "a.x(1, b)[0].y")
        self.check_expression("super . m ( 1,2 )", "super.m(1, 2)")
        self.check_expression("this . x", "this.x")

    def test_literals(self):
        self.check_expression("null")
        self.check_expression("true")
        self.check_expression("false")
        self.check_expression("007", "7")
        self.check_expression("000", "0")
        self.check_expression("9" * 300)
        self.check_expression(r'"a\n\"\\ b"')
        self.check_expression(r'"\\n"')
        self.check_expression('""')

    def test_comments_are_left_out(self):
        self.check("a; // b\n// c\nd;", "a;", "d;")


class ParenthesesTest(PrinterTest):
    def test_where_they_are_needed(self):
        for text in ("(a + b) * c", "a * (b + c)", "a - (b - c)", "a / (b * c)", "a mod (b mod c)", "(a == b) == c",
                     "a == (b < c)", "(a is b) + c", "-(a + b)", "-(a * b)", "(-a).x", "(-a)[0]", "(-a)()",
                     "(not a) == b", "not (a and b)", "-(not a)", "(a or b) and c", "a and (b or c)",
                     "a and (b and c)", "a or (b or c)", "(a = b) + c", "a + (b = c)", "a or (b = c)", "not (a = b)",
                     "-(a = b)", "(a = b).x", "(a = b)(1)", "(a + b).x(1)", "(a + b)[0] = 1", "(a or b).x = 1",
                     "a + (not b)", "(a == b) + c", "(a.x)(b)", "(a.x)(b)(c)", "((a.x)(b).y)(c)", "a * (-b).x",
                     "(a + b)(c)", "1 - (2 + 3)"):
            self.check_expression(text)

    def test_where_they_are_not_needed(self):
        for text, canonical in (
                ("(a * b) + c", "a * b + c"), ("a + (b * c)", "a + b * c"), ("(a - b) - c", "a - b - c"),
                ("(a / b) * c", "a / b * c"), ("(a and b) and c", "a and b and c"), ("(a and b) or c", "a and b or c"),
                ("a or (b and c)", "a or b and c"), ("(a + b) == (c + d)", "a + b == c + d"),
                ("not (a == b)", "not a == b"), ("(not a) and (not b)", "not a and not b"), ("(-a) * (-b)", "-a * -b"),
                ("-(a.x)", "-a.x"), ("-(a())", "-a()"), ("a = (b = c)", "a = b = c"), ("a = (b or c)", "a = b or c"),
                ("(a) = 1", "a = 1"), ("(a.x) = 1", "a.x = 1"), ("((a[0])) = 1", "a[0] = 1"), ("(a)(b)", "a(b)"),
                ("(a())(b)", "a()(b)"), ("(a[0])(b)", "a[0](b)"), ("(a.x()).y", "a.x().y"), ("(a.x).y(1)", "a.x.y(1)"),
                ("(a.x)[0]", "a.x[0]"), ("(a.x(1))(2)", "a.x(1)(2)"), ("[(a = b)]", "[a = b]"), ("f((a = b))", "f(a = b)"),
                ("a[(b = c)]", "a[b = c]"), ("{(a = 1): (b = 2)}", "{a = 1: b = 2}"), ("(fun () { })(1)", "fun () { }(1)"),
                ("({}).x", "{}.x"), ("(1).x", "1.x"), ('("a").x()', '"a".x()'), ("(((a)))", "a"),
                ("a or (not b)", "a or not b"), ("(super.m())()", "super.m()()")):
            self.check_expression(text, canonical)

    def test_a_map_at_the_beginning_of_a_statement(self):
        self.check("({});", "({});")
        self.check("({}.x);", "({}).x;")
        self.check("({}.x(1)[2]);", "({}).x(1)[2];")
        self.check("({} + {});", "({}) + {};")
        self.check("(({}) * 2 + 3 == 4 and 5 or 6);", "({}) * 2 + 3 == 4 and 5 or 6;")
        self.check("({}).x = {};", "({}).x = {};")
        self.check("({})[1] = 2;", "({})[1] = 2;")
        self.check("({}[1] = 2);", "({})[1] = 2;")
        self.check("({})(1);", "({})(1);")
        self.check("if (a) ({}).x; else ({1: 2});", "if (a) ({}).x; else ({1: 2});")

    def test_a_map_elsewhere(self):
        self.check("({} + 1).x;", "({} + 1).x;")
        self.check("(({}).x)(1);", "({}.x)(1);")
        self.check("-({});", "-{};")
        self.check("not ({});", "not {};")
        self.check("x = ({});", "x = {};")
        self.check("[({})];", "[{}];")
        self.check("f(({}));", "f({});")
        self.check("return ({});", "return {};")
        self.check("let x = ({}).y;", "let x = {}.y;")
        self.check("if ({}) a;", "if ({}) a;")
        self.check("fun () { ({}); };", "fun () {", "  ({});", "};")
        self.check("x[({})];", "x[{}];")
        self.check("x + ({}); x and ({}); x or ({}); x == ({});", "x + {};", "x and {};", "x or {};", "x == {};")
        self.check("x.y(({})); x.y = ({}); x[0] = ({});", "x.y({});", "x.y = {};", "x[0] = {};")
        self.check("[{({}): ({})}];", "[{{}: {}}];")
        self.assertEqual(printed_expression(parse_expression("({}).x + 1")), "{}.x + 1")


class ElseTest(PrinterTest):
    def test_left_out(self):
        self.check("if (a) b; else { }", "if (a) b;")
        self.check("if (a) { b; } else { }", "if (a) {", "  b;", "}")
        self.check("if (a) b; else if (c) d; else { }", "if (a) b; else if (c) d;")
        self.check("if (a) { if (b) c; else { } } else d;", "if (a) {", "  if (b) c;", "} else d;")
        self.check("while (a) if (b) c; else { }", "while (a) if (b) c;")
        self.check("if (a) if (b) c; else { } else { }", "if (a) if (b) c;")

    def test_needed(self):
        self.check("if (a) if (b) c; else { } else d;", "if (a) if (b) c; else { } else d;")
        self.check("if (a) if (b) { } else { } else d;", "if (a) if (b) { } else { } else d;")
        self.check("if (a) if (b) c; else if (d) e; else { } else f;",
                   "if (a) if (b) c; else if (d) e; else { } else f;")
        self.check("if (a) if (b) if (c) d; else { } else { } else e;",
                   "if (a) if (b) if (c) d; else { } else { } else e;")
        self.check("if (a) if (b) if (c) d; else { } else e; else f;",
                   "if (a) if (b) if (c) d; else { } else e; else f;")

    def test_needed_within_loops(self):
        self.check("if (a) while (b) if (c) d; else { } else e;", "if (a) while (b) if (c) d; else { } else e;")
        self.check("if (a) for (x in b) if (c) d; else { } else e;", "if (a) for (x in b) if (c) d; else { } else e;")
        self.check("if (a) while (b) for (x in c) if (d) e; else { } else f;",
                   "if (a) while (b) for (x in c) if (d) e; else { } else f;")
        self.check("if (a) while (b) { if (c) d; else { } } else e;",
                   "if (a) while (b) {", "  if (c) d;", "} else e;")

    def test_not_empty(self):
        self.check("if (a) b; else {{}}", "if (a) b; else {", "  { }", "}")

    def test_not_needed_within_a_function(self):
        self.check("if (a) f(fun () { if (b) c; }); else d;",
                   "if (a) f(fun () {", "  if (b) c;", "}); else d;")


class ChanceTest(unittest.TestCase):
    """Point [17], and that nothing stands in the canonical text that is not needed."""

    def test_the_canonical_text_is_read_again(self):
        for text, tree in trees(1, 1500):
            canonical = printed(tree)
            again = parse(canonical)
            self.assertEqual(without_offsets(again), without_offsets(tree), text)
            self.assertEqual(printed(again), canonical, text)

    def test_gaps_stand_alone(self):
        for text, tree in trees(2, 500):
            for line in printed(tree).split("\n"):
                self.assertEqual(line, line.rstrip(), text)
                self.assertNotIn("  ", line.strip(), text)
                self.assertEqual((len(line) - len(line.lstrip())) % 2, 0, text)

    def test_no_parentheses_can_be_left_out(self):
        for text, tree in trees(3, 500):
            canonical = printed(tree)
            for start, stop in self.pairs(canonical):
                shorter = canonical[:start] + " " + canonical[start + 1:stop] + " " + canonical[stop + 1:]
                self.assertFalse(self.reads_as(shorter, tree), (canonical, shorter))

    def test_no_else_can_be_left_out(self):
        for text, tree in trees(4, 1500):
            canonical = printed(tree)
            for found in re.finditer("else { }", canonical):
                shorter = canonical[:found.start()] + canonical[found.end():]
                self.assertFalse(self.reads_as(shorter, tree), (canonical, shorter))

    def reads_as(self, text, tree):
        try:
            return without_offsets(parse(text)) == without_offsets(tree)
        except InvalidText:
            return False

    def pairs(self, text):
        """The offsets of the parentheses that belong together."""
        starts, pairs = [], []
        for kind, offset, value in tokens_of(text):
            if kind == "sign" and value == "(":
                starts.append(offset)
            if kind == "sign" and value == ")":
                pairs.append((starts.pop(), offset))
        return pairs


class ExpressionTest(unittest.TestCase):
    def test_as_on_the_right_of_an_assignment(self):
        for text in ("fun (x) {\n  return fun () {\n    1;\n  };\n}", "{1: fun () { }}", "a = b", "{}.x",
                     "f(fun () {\n  class A {\n    m() { }\n  }\n})"):
            with self.subTest(text):
                self.assertEqual(printed_expression(parse_expression(text)), text)
                self.assertEqual(printed(parse(f"let x = {text};")), f"let x = {text};\n")


class DeepTest(unittest.TestCase):
    def test_the_deepest_trees(self):
        for text in ("x = " + "a" + ".x" * 55 + ";", "let f = " + "(" * 29 + "1" + ")" * 29 + ";",
                     "{" * 30 + "}" * 30, "if (1) " * 29 + "break;", "a" + " + a" * 57 + ";",
                     "fun f() {" * 19 + "}" * 19, "let x = " + "not " * 29 + "a;"):
            tree = parse(text)
            again = parse(printed(tree))
            self.assertEqual(without_offsets(again), without_offsets(tree))


if __name__ == "__main__":
    unittest.main()
