"""Simpler trees: point [89]."""

import unittest

from livequill.meaning.meaning import Meaning
from livequill.names.faults import read_program
from livequill.rewriting.simpler import simpler
from livequill.text.parser import parse, parse_expression
from livequill.text.printer import printed
from livequill.text.trees import parts_of, without_offsets
from livequill.values.written import show
from programs import programs

HEAD = "let x = 1; let y = 2; let f = fun () { return x; };"


class SimplerCase(unittest.TestCase):
    def simpler(self, text):
        """The simpler tree of a text; the tree that is passed stays as it is, and the simpler one is its own simpler one."""
        tree = parse(text)
        found = simpler(tree)
        self.assertEqual(tree, parse(text))
        self.assertEqual(simpler(found), found)
        return found

    def check(self, text, expected):
        """Checks that a text becomes what another text is, apart from offsets and numbers of functions."""
        with self.subTest(text):
            self.assertEqual(plain(self.simpler(text)), plain(parse(expected)))

    def check_expression(self, text, expected):
        """Checks what becomes of an expression, which is passed to a function so that it stays."""
        self.check(f"f({text});", f"f({expected});")


def plain(term):
    """A term without offsets and numbers of functions."""
    def numbered(held):
        if isinstance(held, tuple) and held and held[0] == "function":
            held = (*held[:2], 0, *held[3:])
        return tuple(numbered(part) for part in held) if isinstance(held, tuple) else held

    return numbered(without_offsets(term))


class OperatorsTest(SimplerCase):
    def test_integers(self):
        for text, expected in (("1 + 2", "3"), ("2 - 5", "-3"), ("3 * 4", "12"), ("7 / 2", "3"), ("-7 / 2", "-4"), ("7 mod -2", "-1"),
                               ("-(2 + 3)", "-5"), ("-(2 - 3)", "1"), ("- -5", "5"), ("- 0", "0"), ("0 * -5", "0"), ("5 - 5", "0"),
                               ("1 + 2 * 3 - 4", "3"), ("2 < 3", "true"), ("2 <= 1", "false"), ("-1 > -2", "true"), ("3 >= 4", "false"),
                               ("1 == 1", "true"), ("1 != 1", "false"), ("-1 == 0 - 1", "true")):
            self.check_expression(text, expected)

    def test_other_constants(self):
        for text, expected in (("\"a\" + \"b\"", "\"ab\""), ("\"a\" < \"b\"", "true"), ("\"a\" == \"a\"", "true"), ("null == null", "true"),
                               ("null != false", "true"), ("true == 1", "false"), ("false == 0", "false"), ("\"1\" == 1", "false"),
                               ("not null", "true"), ("not 0", "false"), ("not \"\"", "false"), ("not -1", "false"), ("not not true", "true"),
                               ("\"\" + \"\"", "\"\""), ("\"a\" >= \"b\"", "false")):
            self.check_expression(text, expected)

    def test_errors_stay(self):
        for text in ("1 / 0", "1 mod 0", "-\"a\"", "-true", "- null", "1 + \"a\"", "\"a\" - \"b\"", "true + true", "1 < \"a\"",
                     "null < null", "1 is 1", "null is null", f"{'9' * 300} + 1", f"-{'9' * 300} - 1", f"{'9' * 200} * {'9' * 200}",
                     f"\"{'a' * 600}\" + \"{'b' * 401}\""):
            self.check_expression(text, text)
        self.check_expression("(1 + 1) / (1 - 1)", "2 / 0")
        self.check_expression("(1 / 0) + (1 + 1)", "1 / 0 + 2")
        self.check_expression(f"\"{'a' * 600}\" + \"{'b' * 400}\"", f"\"{'a' * 600 + 'b' * 400}\"")
        self.check_expression(f"{'9' * 300} + 0", "9" * 300)
        self.check_expression(f"0 - {'9' * 300}", "-" + "9" * 300)

    def test_other_operands_stay(self):
        for text in ("x + 1", "1 + x", "-x", "not x", "not f()", "[] + []", "[1] == [1]", "{} == {}", "x == x", "2 + x",
                     "1 is Error", "print == print", "Error == Error", "fun () { } == null", "\"a\"[0]", "[1][0]", "x.x"):
            self.check_expression(text, text)
        self.check_expression("x + 1 + 2", "x + 1 + 2")
        self.check_expression("1 + 2 + x", "3 + x")
        self.check_expression("x + (1 + 2)", "x + 3")

    def test_within_other_terms(self):
        self.check_expression("[1 + 1, {2 + 2: 3 + 3}, (x = 4 + 4), x[5 + 5], x[6 + 6] = 7 + 7, x.m(8 + 8), x.m = 9 + 9]",
                              "[2, {4: 6}, (x = 8), x[10], x[12] = 14, x.m(16), x.m = 18]")
        self.check("let a = 1 + 1; for (b in [1 + 1]) { f(1 + 1); } throw 1 + 1;", "let a = 2; for (b in [2]) { f(2); } throw 2;")
        self.check("class A extends B { m(a) { return super.m(1 + 1); } } fun g() { return 1 + 1; }",
                   "class A extends B { m(a) { return super.m(2); } } fun g() { return 2; }")
        self.check("try { f(1 + 1); } catch (e) { f(2 + 2); } while (f(3 + 3)) f(4 + 4); if (f(1 + 1)) f(2 + 2); else f(3 + 3);",
                   "try { f(2); } catch (e) { f(4); } while (f(6)) f(8); if (f(2)) f(4); else f(6);")

    def test_offsets(self):
        self.assertEqual(simpler(parse_expression("  2 - 5")), ("unary", 4, "-", ("int", 3)))
        self.assertEqual(simpler(parse_expression("  2 * -5")), ("unary", 4, "-", ("int", 10)))
        self.assertEqual(simpler(parse_expression("- (2 + 5)")), ("unary", 0, "-", ("int", 7)))
        self.assertEqual(simpler(parse_expression(" -5")), ("unary", 1, "-", ("int", 5)))
        self.assertEqual(simpler(parse_expression("x + (1 - 2)")), ("binary", 2, "+", ("name", 0, "x"), ("unary", 7, "-", ("int", 1))))
        self.assertEqual(simpler(parse_expression("null and x or y")), ("name", 14, "y"))


class ChoicesTest(SimplerCase):
    def test_both(self):
        for text, expected in (("1 and x", "x"), ("0 and x", "x"), ("\"\" and f()", "f()"), ("true and 1 / 0", "1 / 0"), ("null and x", "null"),
                               ("false and f()", "false"), ("-1 and x", "x"), ("not 1 and x", "false"), ("x and 1", "x and 1"),
                               ("f() and null", "f() and null"), ("1 and 2 and x", "x"), ("x and 1 + 1", "x and 2")):
            self.check_expression(text, expected)

    def test_either(self):
        for text, expected in (("1 or x", "1"), ("0 or x", "0"), ("null or x", "x"), ("false or f()", "f()"), ("-1 or x", "-1"),
                               ("1 == 2 or x", "x"), ("x or 1", "x or 1"), ("null or false or x", "x"), ("1 / 0 or x", "1 / 0 or x"),
                               ("null and x or y", "y"), ("1 or x and y", "1"), ("[] or x", "[] or x")):
            self.check_expression(text, expected)


class StatementsTest(SimplerCase):
    def test_expressions(self):
        self.check("1; \"a\"; null; true; -5; 1 + 2; x; print; 1 and x; not 1;", "")
        self.check("f(); -x; x + 1; x = 1; [1]; 1 / 0; x.y; x and y; x[0]; \"a\" + 1;",
                   "f(); -x; x + 1; x = 1; [1]; 1 / 0; x.y; x and y; x[0]; \"a\" + 1;")
        tree = ("block", (("do", ("function", 0, 1, (), ("block", ()))), ("do", ("name", 3, "this"))))
        self.assertEqual(simpler(tree), ("block", tree[1][:1]))

    def test_blocks(self):
        self.check("{ } { { } { 1; } } { f(); }", "{ f(); }")
        self.check("{ { f(); } }", "{ { f(); } }")
        self.check("{ let a = 1; }", "{ let a = 1; }")
        self.check("fun g() { 1; } class A { m() { { } } }", "fun g() { } class A { m() { } }")

    def test_if(self):
        self.check("if (1) f(); else x();", "f();")
        self.check("if (null) f(); else x();", "x();")
        self.check("if (null) f();", "")
        self.check("if (1) 1; else x();", "")
        self.check("if (1) { f(); }", "{ f(); }")
        self.check("if (1 == 2) f(); else { 1; }", "")
        self.check("if (x) 1;", "if (x) { }")
        self.check("if (x) { { } } else 2;", "if (x) { }")
        self.check("if (x) f(); else { 1; }", "if (x) f();")
        self.check("if (x) 1; else f();", "if (x) { } else f();")
        self.check("if (x) if (1) f(); else y(); else { if (null) f(); }", "if (x) f();")
        self.check("if (1 and x) f();", "if (x) f();")
        self.check("if (-1) f();", "f();")
        tree = ("block", (("if", 0, ("name", 1, "x"), ("block", ()), ("block", ())),))
        self.assertEqual(simpler(tree), ("block", (("if", 0, ("name", 1, "x"), ("block", ()), None),)))

    def test_loops(self):
        self.check("while (null) f();", "")
        self.check("while (1 > 2) { f(); }", "")
        self.check("while (1) 1;", "while (1) { }")
        self.check("while (1 < 2) f();", "while (true) f();")
        self.check("while (x) { x; { } }", "while (x) { }")
        self.check("for (a in 1 + 1) a;", "for (a in 2) { }")
        self.check("for (a in []) { { } }", "for (a in []) { }")

    def test_try(self):
        self.check("try { } catch (e) { f(); }", "")
        self.check("try { 1; x; { } } catch (e) { f(); }", "")
        self.check("try { if (null) f(); } catch (e) { throw e; }", "")
        self.check("try { f(); } catch (e) { e; }", "try { f(); } catch (e) { }")
        self.check("if (x) try { } catch (e) { f(); }", "if (x) { }")
        self.check("while (x) try { 1; } catch (e) { f(); }", "while (x) { }")

    def test_what_does_not_go_on(self):
        self.check("throw 1; f(); let a = 1; fun g() { }", "throw 1;")
        self.check("fun g() { return; f(); } while (x) { break; f(); } while (x) { f(); continue; f(); }",
                   "fun g() { return; } while (x) { break; } while (x) { f(); continue; }")
        self.check("{ f(); throw 1; x(); } f();", "{ f(); throw 1; }")
        self.check("{ { throw 1; } } f();", "{ { throw 1; } }")
        self.check("if (x) throw 1; else throw 2; f();", "if (x) throw 1; else throw 2;")
        self.check("if (x) throw 1; f();", "if (x) throw 1; f();")
        self.check("if (x) throw 1; else y(); f();", "if (x) throw 1; else y(); f();")
        self.check("if (x) y(); else throw 1; f();", "if (x) y(); else throw 1; f();")
        self.check("if (x) { throw 1; f(); } else { { throw 2; } 3; } f();", "if (x) { throw 1; } else { { throw 2; } }")
        self.check("if (1) throw 1; f();", "throw 1;")
        self.check("if (1) throw 1; else f(); f();", "throw 1;")
        self.check("try { throw 1; } catch (e) { throw e; } f();", "try { throw 1; } catch (e) { throw e; }")
        self.check("try { throw 1; } catch (e) { } f();", "try { throw 1; } catch (e) { } f();")
        self.check("try { f(); } catch (e) { throw e; } f();", "try { f(); } catch (e) { throw e; } f();")
        # Loops go on, even those that never end.
        self.check("while (true) { } f();", "while (true) { } f();")
        self.check("for (a in x) { throw 1; } f();", "for (a in x) { throw 1; } f();")
        self.check("while (true) { throw 1; } f();", "while (true) { throw 1; } f();")
        # Functions in the way go on, whatever is in them.
        self.check("fun g() { throw 1; } f();", "fun g() { throw 1; } f();")

    def test_numbers_of_functions_stay(self):
        text = "fun a() { throw 1; f(fun () { }); } fun b() { if (null) f(fun () { }); } fun c() { return fun () { }; }"
        found = []

        def look(term):
            if term[0] == "function":
                found.append(term[2])
            for part in parts_of(term):
                look(part)

        look(self.simpler(text))
        self.assertEqual(found, [1, 3, 5, 6])

    def test_everything_else_stays(self):
        text = ("let a = 1; a = a + 1; fun g(x, y) { return x; } class A extends Error { init(x) { this.x = x; } }"
                " for (i in [a, 2]) { if (a == i) { print(i); } else f(i); } try { g(a, {1: -2}); } catch (e) { throw e; }")
        tree = parse(text)
        self.assertEqual(simpler(tree), tree)
        self.assertEqual(simpler(("block", ())), ("block", ()))

    def test_trees_that_are_no_texts(self):
        tree = ("block", (("do", ("call", -5, ("name", 7, "f"), (("binary", -9, "-", ("int", 1), ("int", 2)),))),
                          ("break", 99), ("do", ("name", 1, "undeclared"))))
        self.assertEqual(simpler(tree), ("block", (
            ("do", ("call", -5, ("name", 7, "f"), (("unary", -9, "-", ("int", 1)),))), ("break", 99))))


class ChanceTest(SimplerCase):
    def test_programs(self):
        for text in programs(89, 60):
            text = text.replace("(t)", "(1 < 2)").replace("(l)", "(null)")
            tree = read_program(text)
            found = self.simpler(text)
            # The simpler tree is one of a program again, and says the same.
            read_program(printed(found))
            ours, theirs = Meaning(tree, ["7", "x"]), Meaning(found, ["7", "x"])
            ours.go_on(60000)
            theirs.go_on(60000)
            if "going" not in (ours.ended, theirs.ended):
                self.assertEqual((ours.ended, ours.store.output, ours.store.taken, show(ours.store, ours.thrown)),
                                 (theirs.ended, theirs.store.output, theirs.store.taken, show(theirs.store, theirs.thrown)))


if __name__ == "__main__":
    unittest.main()
