"""The evaluation of a program: points [40], [41] and [44]."""

import unittest

from livequill.meaning.meaning import Meaning
from livequill.names.faults import read_program
from livequill.values.refs import Ref
from programs import programs
from runs import MANY, agreement, failure_of, made_by, meant, output_of, terms_in
from stores import snapshot

DEEP = "fun deep(n) { if (n == 0) return 0; return 1 + deep(n - 1); }\n"


def printed(*expressions, before=""):
    """The lines that a program prints: one for each of these expressions."""
    return output_of(before + "".join(f"print({expression});" for expression in expressions))


class TurnsTest(unittest.TestCase):
    TEXTS = [
        "", "print(1);", "let x = 5; print(x + 1); throw [x];", "print(read()); print(read()); read();",
        DEEP + "print(deep(58)); try { deep(59); } catch (e) { print(e.kind); }",
        "let n = 0; while (n < 300) { n = n + 1; if (n mod 7 == 0) continue; if (n > 200) break; } print(n);",
        "class A { init(x) { this.x = x; } } class B extends A { init() { super.init(2); } } print(B().x);",
        "for (x in \"abc\") { try { throw x; } catch (e) { print(e); continue; } }",
    ]

    def state(self, meaning):
        return snapshot(meaning.store), meaning.ended, repr(meaning.thrown)

    def test_the_beginning(self):
        lines = ["a", "b"]
        meaning = Meaning(read_program("print(1);"), lines)
        lines.clear()
        self.assertEqual((meaning.ended, meaning.thrown, meaning.store.output), ("going", None, []))
        self.assertEqual((meaning.store.lines, meaning.store.taken, len(meaning.store.things)), (["a", "b"], 0, 1))
        before = self.state(meaning)
        self.assertIsNone(meaning.go_on(0))
        self.assertEqual(self.state(meaning), before)

    def test_turn_by_turn(self):
        for text in self.TEXTS:
            at_once = meant(text, "l1", "l2")
            slowly = Meaning(read_program(text), ["l1", "l2"])
            turns = 0
            while slowly.ended == "going":
                slowly.go_on(1)
                turns += 1
            self.assertEqual(self.state(slowly), self.state(at_once))
            by_threes = Meaning(read_program(text), ["l1", "l2"])
            while by_threes.ended == "going":
                by_threes.go_on(3)
            self.assertEqual(self.state(by_threes), self.state(at_once))
            exactly = Meaning(read_program(text), ["l1", "l2"])
            exactly.go_on(turns - 1)
            self.assertEqual(exactly.ended, "going")
            exactly.go_on(1)
            self.assertEqual(self.state(exactly), self.state(at_once))

    def test_behind_the_end(self):
        for text, ended in (("print(1);", "finished"), ("throw 7;", "failed"), ("print(read());", "waiting")):
            meaning = meant(text)
            self.assertEqual(meaning.ended, ended)
            before = self.state(meaning)
            for turns in (0, 1, 100):
                self.assertIsNone(meaning.go_on(turns))
                self.assertEqual(self.state(meaning), before)

    def test_the_bound(self):
        """The bound is checked by `agreement`, with the steps that the machine makes."""
        for text in self.TEXTS:
            agreement(text, "l1", "l2")
        for text in ("while (true) { {{{{ break; }}}} }", "{{{{{{{{ }}}}}}}}", "let n = 9; while ((n = n - 1) > 0) {{{{}}}}",
                     "fun f() { try { try { try { throw 1; } catch (a) { throw a; } } catch (b) { throw b; } } "
                     "catch (c) { return c; } } print(f());"):
            agreement(text)

    def test_the_tree_alone(self):
        """The tree is all that is asked for, and it is not changed."""
        tree = read_program(self.TEXTS[4])
        first, second = Meaning(tree, []), Meaning(tree, [])
        first.go_on(MANY)
        second.go_on(MANY)
        self.assertEqual(snapshot(first.store), snapshot(second.store))


class SizeTest(unittest.TestCase):
    def test_deep_trees(self):
        inner = "1" + " + 1" * 55
        self.assertEqual(output_of(f"print({inner});"), ["56"])
        self.assertEqual(output_of("{" * 25 + "print(1);" + "}" * 25), ["1"])
        self.assertEqual(output_of("print(" + "[" * 20 + "]" * 20 + ");"), ["[" * 10 + "[...]" + "]" * 10])

    def test_calls_in_progress(self):
        self.assertEqual(output_of(DEEP + "print(deep(58));"), ["58"])
        self.assertEqual(failure_of(DEEP + "print(deep(59));"), ("RecursionError", "too many calls"))
        # Deep calls within deep expressions.
        deep = "fun f(n) { if (n == 0) return 0; return " + "(0 + " * 20 + "f(n - 1)" + ")" * 20 + "; }"
        agreement(deep + " print(f(58));")
        agreement(deep + " print(f(59));")

    def test_long_loops(self):
        meaning = meant("let n = 0; let s = 0; while (n < 20000) { n = n + 1; s = s + n; } print(s);")
        self.assertEqual(meaning.store.output, ["200010000"])
        agreement("let n = 0; while (n < 3000) n = n + 1;")

    def test_terms(self):
        self.assertEqual(terms_in(read_program("")), 1)
        self.assertEqual(terms_in(read_program("print(1);")), 5)


class ExpressionsTest(unittest.TestCase):
    def test_literals(self):
        self.assertEqual(printed("null", "true", "false", "12", "007", "\"a\\n\\\"\\\\\"", "\"\""),
                         ["null", "true", "false", "12", "7", "a\n\"\\", ""])

    def test_names(self):
        self.assertEqual(printed("x", "len", "Error", "print", before="let x = 3;"),
                         ["3", "<function>", "<class Error>", "<function>"])
        self.assertEqual(output_of("let x = 1; { print(x); let x = 2; print(x); { let x = x + 5; print(x); } print(x); }"
                                   "print(x);"), ["1", "2", "7", "2", "1"])
        self.assertEqual(output_of("let x = 1; let x = x + 1; print(x);"), ["2"])

    def test_names_of_the_language_that_are_hidden(self):
        self.assertEqual(output_of("let len = 5; print(len);"), ["5"])
        self.assertEqual(output_of("print(len(\"ab\")); { let len = fun (x) { return \"mine\"; }; print(len(\"ab\")); }"
                                   "print(len(\"ab\"));"), ["2", "mine", "2"])
        self.assertEqual(output_of("fun max(a) { return a; } print(max(1)); class Error { } print(Error());"),
                         ["1", "<Error>"])
        self.assertEqual(output_of("let Error = 5; try { 1 / 0; } catch (e) { print(e.kind, e); }"),
                         ["ZeroDivisionError <Error>"])

    def test_operators(self):
        self.assertEqual(printed("1 + 2 * 3", "7 / 2", "-7 / 2", "-7 mod 3", "not 0", "not null", "1 == true", "1 != true",
                                 "\"a\" < \"b\"", "2 >= 3", "Error(\"a\", \"b\") is Error", "[1] + [2]", "-(-5)"),
                         ["7", "3", "-4", "2", "false", "true", "false", "true", "true", "false", "true", "[1, 2]", "5"])

    def test_and_and_or(self):
        values = ["null", "false", "true", "0", "1", "\"\"", "\"a\"", "[]", "{}", "Error", "print"]
        before = "fun said(x) { print(\"said\"); return x; }"
        for x in values:
            for y in values:
                is_true = x not in ("null", "false")
                shown = {"\"\"": "", "\"a\"": "a", "Error": "<class Error>", "print": "<function>"}
                one, other = shown.get(x, x), shown.get(y, y)
                self.assertEqual(printed(f"{x} and said({y})", before=before), ["said", other] if is_true else [one])
                self.assertEqual(printed(f"{x} or said({y})", before=before), [one] if is_true else ["said", other])

    def test_assignment(self):
        self.assertEqual(output_of("let x = 1; let y = 2; print(x = y = 5); print(x, y); fun f() { x = x + 1; } f(); f();"
                                   "print(x);"), ["5", "5 5", "7"])
        self.assertEqual(output_of("let l = [1, 2]; print(l[1] = 7); let d = {}; print(d[\"a\"] = l); print(l, d);"),
                         ["7", "[1, 7]", "[1, 7] {\"a\": [1, 7]}"])
        self.assertEqual(output_of("class A { } let a = A(); print(a.x = 3); a.x = a.x + 1; print(a.x);"), ["3", "4"])

    def test_elements_and_fields(self):
        self.assertEqual(printed("[5, 6][1]", "\"xyz\"[0]", "{1: 2, true: 3}[true]", "Error(\"a\", \"b\").kind"),
                         ["6", "x", "3", "a"])

    def test_functions(self):
        self.assertEqual(output_of("let f = fun (x, y) { return x - y; }; print(f(5, 3), f, kind(f));"),
                         ["2 <function> function"])
        self.assertEqual(made_by("fun () { };"), [("Closure", 1, 0, ())])
        self.assertEqual(made_by("let x = 1; let y = 2; fun (a, b) { };")[-1], ("Closure", 1, 2, (Ref(2), Ref(1))))

    def test_errors_become_instances(self):
        self.assertEqual(output_of("try { 1 / 0; } catch (e) { print(e is Error, e.kind, e.message, e); }"),
                         ["true ZeroDivisionError division by zero <Error>"])
        for text, failure in (
                ("-null;", ("KindError", "cannot negate null")), ("[1][1];", ("IndexError", "index out of range")),
                ("({1: 1})[2];", ("KeyError", "no such key")), ("1.x;", ("FieldError", "integer has no field x")),
                ("1.x = 2;", ("FieldError", "integer has no field x")), ("\"a\"[0] = 1;",
                                                                         ("KindError", "cannot index text")),
                ("({[]: 1});", ("KindError", "keys are null, booleans, integers and texts")),
                ("1 is 1;", ("KindError", "is needs a class")), ("throw 5;", "5"),
                ("assert(1 == 2, \"why\");", ("AssertionError", "why"))):
            self.assertEqual(failure_of(text), failure)


class OrderTest(unittest.TestCase):
    """The order of evaluation in each kind of term, told by what is printed."""

    BEFORE = ("class P { } let p = P(); p.f = fun (x, y) { print(\"f\"); return x; };"
              "fun s(n, x) { print(n); return x; }")

    def check(self, expression, *order):
        for text in (f"{expression};", f"print({expression});", f"let q = [{expression}];"):
            found = output_of(self.BEFORE + text)
            self.assertEqual(found[:len(order)], [str(number) for number in order])
            self.assertLessEqual(len(found), len(order) + 1)

    def test_operators(self):
        for sign in ("+", "-", "*", "/", "mod", "==", "!=", "<", "<=", ">", ">="):
            self.check(f"s(1, 2) {sign} s(2, 3)", 1, 2)
        self.check("s(1, p) is s(2, P)", 1, 2)
        self.check("s(1, 1) + s(2, 2) * s(3, 3) - s(4, 4)", 1, 2, 3, 4)
        self.check("s(1, 1) == s(2, 2) and s(3, 3)", 1, 2)

    def test_elements_and_fields(self):
        self.check("s(1, [4, 5])[s(2, 0)]", 1, 2)
        self.check("s(1, [4, 5])[s(2, 0)] = s(3, 9)", 1, 2, 3)
        self.check("s(1, p).z = s(2, 3)", 1, 2)
        self.check("s(1, {})[s(2, 3)] = s(3, p).y = s(4, 1)", 1, 2, 3, 4)

    def test_lists_and_maps(self):
        self.check("[s(1, 1), s(2, 2), [s(3, 3)], s(4, 4)]", 1, 2, 3, 4)
        self.check("({s(1, 1): s(2, 2), s(3, 3): s(4, 4)})", 1, 2, 3, 4)

    def test_calls(self):
        self.check("s(1, p.f)(s(2, 5), s(3, 6))", 1, 2, 3, "f")
        self.check("s(1, p).f(s(2, 5), s(3, 6))", 1, 2, 3, "f")
        self.check("s(1, [1, 2, 3]).slice(s(2, 0), s(3, 1))", 1, 2, 3)
        self.check("max(s(1, 1), s(2, 2), s(3, 3))", 1, 2, 3)

    def test_errors_come_behind_the_operands(self):
        for expression, order in (("s(1, null) + s(2, 0)", "12"), ("s(1, 1)[s(2, 2)]", "12"), ("s(1, 1)(s(2, 2))", "12"),
                                  ("s(1, 1).x(s(2, 2))", "12"), ("s(1, 1)[s(2, 2)] = s(3, 3)", "123"),
                                  ("s(1, 1).x = s(2, 2)", "12"), ("({s(1, []): s(2, 2), s(3, 3): s(4, 4)})", "1234"),
                                  ("s(1, p).none(s(2, 2), s(3, 3))", "123"), ("p.f(s(1, 1))", "1"),
                                  ("s(1, 1 / 0)", ""), ("s(1, 1) + s(2, 1 / 0)", "1")):
            found = output_of(self.BEFORE + f"try {{ {expression}; }} catch (e) {{ print(\"e\"); }}")
            self.assertEqual(found, [*order, "e"])

    def test_the_called_value_is_taken_first(self):
        self.assertEqual(output_of("let f = fun (x) { return 1; }; print(f(f = fun (x) { return 2; }));"), ["1"])
        self.assertEqual(output_of("let x = 1; print(x + (x = 5) + x);"), ["11"])
        self.assertEqual(output_of("let l = [1]; let i = 0; l[i] = (i = 9); print(l);"), ["[9]"])
        # The field is looked up behind the arguments.
        self.assertEqual(output_of("class A { } let a = A(); fun g(f) { a.f = f; return 1; }"
                                   "print(a.f(g(fun (x) { return \"late\"; })));"), ["late"])

    def test_super(self):
        text = ("class A { m(x, y) { print(\"m\", x, y); } } fun s(n, x) { print(n); return x; }"
                "class B extends A { m() { super.m(s(1, 5), s(2, 6)); } } B().m();")
        self.assertEqual(output_of(text), ["1", "2", "m 5 6"])

    def test_a_parent_is_evaluated_when_the_class_is_made(self):
        self.assertEqual(output_of("class A { m() { return 1; } } let P = A; class B extends P { } "
                                   "P = null; print(B().m());"), ["1"])


class AgreementTest(unittest.TestCase):
    """Points [2] and [58]: programs that were drawn come to the same by their meaning and by their code."""

    def test_chance_programs(self):
        ends = {}
        for text in programs(2026, 150):
            for lines in (["7", "line"], []):
                machine = agreement(text, *lines, most=20000)
                ends[machine.status()] = ends.get(machine.status(), 0) + 1
        self.assertGreater(ends.get("finished", 0), 60)
        self.assertGreater(ends.get("failed", 0), 30)
        self.assertGreater(ends.get("waiting", 0), 15)


if __name__ == "__main__":
    unittest.main()
