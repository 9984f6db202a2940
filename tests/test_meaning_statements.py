"""Statements in the evaluation of a program: points [43] and [44]."""

import unittest

from livequill.values.refs import Builtin, Ref
from runs import agreement, failure_of, made_by, meant, output_of


class StatementsTest(unittest.TestCase):
    def check(self, text, *lines):
        """Checks what a program prints; the machine must come to the same."""
        self.assertEqual(output_of(text), list(lines))
        agreement(text)

    def check_failure(self, text, failure, *lines):
        self.assertEqual(failure_of(text), failure)
        self.assertEqual(meant(text).store.output, list(lines))
        agreement(text)


class BlocksTest(StatementsTest):
    def test_items(self):
        self.check("")
        self.check("print(1); print(2);", "1", "2")
        self.check("{ } { { } print(1); }", "1")
        self.check("let x = 1; { let x = 2; print(x); } print(x);", "2", "1")

    def test_variables_of_a_block(self):
        self.check("let f = null; { let x = 1; f = fun () { x = x + 1; return x; }; } print(f(), f());", "2 3")
        self.check("let x = 1; let f = fun () { return x; }; let x = 2; print(f(), x);", "1 2")

    def test_what_does_not_end_normally_ends_the_block(self):
        self.check("fun f() { { return 1; print(\"no\"); } print(\"no\"); } print(f());", "1")
        self.check_failure("{ throw 1; print(\"no\"); } print(\"no\");", "1")
        self.check("while (true) { { break; print(\"no\"); } print(\"no\"); }")

    def test_groups(self):
        self.check("fun even(n) { return n == 0 or odd(n - 1); } fun odd(n) { return n != 0 and even(n - 1); }"
                   "print(even(10), odd(7), even(3));", "true true false")
        self.check("class A { make() { return B(); } } class B extends A { } print(A().make(), B().make());", "<B> <B>")
        self.check("fun f() { return C(); } class C { m() { return f; } } print(f().m() == f);", "true")
        self.check("print(1); fun f() { return 2; } print(f()); fun f() { return 3; } print(f());", "1", "2", "3")

    def test_a_group_that_is_used_ahead_of_its_making(self):
        self.check_failure("fun f() { } class A extends f { }", ("KindError", "the parent is not a class"))
        self.check("class A extends B { } class B { } print(B() is B, A() is B);", "true false")

    def test_the_variables_of_a_group(self):
        made = made_by("fun a() { } class B { } fun c() { }")
        # From the last name to the first one; then what is made, in order.
        self.assertEqual(made, [
            ("Variable", Ref(7)), ("Variable", Ref(6)), ("Variable", Ref(4)), ("Closure", 1, 0, (Ref(3), Ref(2), Ref(1))),
            ("Variable", None), ("Kin", "B", None), ("Closure", 2, 0, (Ref(3), Ref(2), Ref(1)))])

    def test_let(self):
        self.check("let x = [1]; let y = x; y.push(2); print(x);", "[1, 2]")
        self.check_failure("let x = 1 / 0; print(x);", ("ZeroDivisionError", "division by zero"))


class IfTest(StatementsTest):
    def test_conditions(self):
        for value, is_true in (("null", False), ("false", False), ("true", True), ("0", True), ("\"\"", True), ("[]", True),
                               ("{}", True), ("print", True), ("Error", True)):
            self.check(f"if ({value}) print(1); else print(2);", "1" if is_true else "2")
            self.check(f"if ({value}) print(1); print(3);", *(["1"] if is_true else []), "3")

    def test_else_belongs_to_the_nearest_if(self):
        self.check("if (true) if (false) print(1); else print(2);", "2")
        self.check("if (false) if (false) print(1); else print(2);")

    def test_endings(self):
        for value in ("true", "false"):
            self.check(f"fun f() {{ if ({value}) return 1; else return 2; print(\"no\"); }} print(f());",
                       "1" if value == "true" else "2")
            self.check(f"for (x in [1, 2]) {{ if ({value}) continue; else break; print(\"no\"); }}")
        self.check_failure("if (1 / 0) print(1);", ("ZeroDivisionError", "division by zero"))


class LoopsTest(StatementsTest):
    def test_while(self):
        self.check("let n = 0; while (n < 3) { print(n); n = n + 1; }", "0", "1", "2")
        self.check("while (false) print(1); while (null) print(2);")
        self.check("let n = 3; while (n = n - 1) { print(n); if (n == 0) break; }", "2", "1", "0")

    def test_break_and_continue(self):
        self.check("let n = 0; while (true) { n = n + 1; if (n == 2) continue; if (n == 4) break; print(n); } print(n);",
                   "1", "3", "4")
        self.check("for (x in range(6)) { if (x == 1) continue; if (x == 3) break; print(x); }", "0", "2")
        self.check("for (x in [1, 2]) { for (y in [1, 2, 3]) { if (y == 2) break; print(x, y); } print(x); }",
                   "1 1", "1", "2 1", "2")
        self.check("for (x in [1, 2]) { let n = 0; while (n < 3) { n = n + 1; if (n == 2) continue; print(x, n); } }",
                   "1 1", "1 3", "2 1", "2 3")

    def test_the_scope_behind_a_loop(self):
        self.check("let x = 0; let y = 9; for (x in [1, 2, 3]) { let y = x; { let z = y; if (z == 2) break; } } print(x, y);",
                   "0 9")
        self.check("let y = 9; let n = 0; while (n < 2) { n = n + 1; let y = n; { let y = 5; continue; } } print(y, n);",
                   "9 2")
        self.check("let x = 5; for (x in []) { } print(x);", "5")
        self.check("let x = 3; while (x > 0) { x = x - 1; print(x); let x = 9; { let x = 8; continue; } } print(x);",
                   "2", "1", "0", "0")
        self.check("let x = 3; while (x > 0) { x = x - 1; let y = 0; let x = 9; try { throw x; } catch (x) { continue; } }"
                   "print(x);", "0")

    def test_returns_and_exceptions_end_loops(self):
        self.check("fun f() { while (true) { for (x in [7, 8]) { return x; } } } print(f());", "7")
        self.check("try { for (x in [1, 2]) { while (true) throw x; } } catch (e) { print(e); }", "1")
        self.check_failure("while (1 / 0) { }", ("ZeroDivisionError", "division by zero"))
        self.check_failure("for (x in 5) { print(1); }", ("KindError", "cannot go through integer"))

    def test_what_for_goes_through(self):
        self.check("for (x in [1, null, \"a\"]) print(x);", "1", "null", "a")
        self.check("for (x in \"a\\nb\") print(x);", "a", "\n", "b")
        self.check("for (x in {1: \"a\", true: \"b\", null: \"c\"}) print(x);", "1", "true", "null")
        self.check("let l = [1, 2]; for (x in l) { l.push(x + 10); print(x); } print(l);", "1", "2", "[1, 2, 11, 12]")
        self.check("let d = {1: 1, 2: 2}; for (k in d) { d.remove(k); d[k + 5] = k; } print(d);", "{6: 1, 7: 2}")
        self.check("fun f() { print(\"once\"); return [1, 2]; } for (x in f()) print(x);", "once", "1", "2")
        self.check("let x = [1, 2]; for (x in x) print(x); print(x);", "1", "2", "[1, 2]")

    def test_closures_keep_the_variable_of_a_round(self):
        self.check("let l = []; for (x in range(3)) l.push(fun () { return x = x + 1; });"
                   "for (f in l) print(f(), f());", "1 2", "2 3", "3 4")
        self.check("let l = []; let n = 0; while (n < 3) { let m = n; l.push(fun () { return [n, m]; }); n = n + 1; }"
                   "for (f in l) print(f());", "[3, 0]", "[3, 1]", "[3, 2]")

    def test_the_variable_can_be_assigned(self):
        self.check("for (x in [1, 2]) { x = x * 10; print(x); }", "10", "20")

    def test_objects_of_a_for(self):
        made = made_by("for (x in [7, 8]) { }")
        self.assertEqual(made, [("Parts", 7, 8), ("Cursor",), ("Variable", Ref(2)), ("Variable", 7), ("Variable", 8)])
        made = made_by("for (x in \"ab\") break;")
        self.assertEqual(made, [("Cursor", "b"), ("Variable", Ref(1)), ("Variable", "a")])


class TryTest(StatementsTest):
    def test_normal_ends(self):
        self.check("try { print(1); } catch (e) { print(2); } print(3);", "1", "3")
        self.check("try { } catch (e) { }")

    def test_thrown_values(self):
        for value in ("null", "5", "\"a\"", "[1]", "Error"):
            self.check(f"let v = {value}; try {{ throw v; }} catch (e) {{ print(e == v); }}", "true")
        self.check("try { 1 / 0; print(\"no\"); } catch (e) { print(e.kind); }", "ZeroDivisionError")
        self.check("let e = 1; try { throw 2; } catch (e) { e = e + 1; print(e); } print(e);", "3", "1")

    def test_exceptions_in_the_second_block(self):
        self.check_failure("try { throw 1; } catch (e) { throw e + 1; }", "2")
        self.check("try { try { throw 1; } catch (e) { throw e + 1; } } catch (e) { print(e); }", "2")
        self.check("try { try { throw 1; } catch (e) { print(e); } throw 2; } catch (e) { print(e); }", "1", "2")

    def test_behind_a_try_nothing_is_caught(self):
        self.check_failure("try { print(1); } catch (e) { print(2); } throw 3;", "3", "1")
        self.check_failure("for (x in [1]) { try { break; } catch (e) { print(2); } } throw 3;", "3")
        self.check_failure("for (x in [1]) { try { continue; } catch (e) { print(2); } } throw 3;", "3")
        self.check_failure("fun f() { try { return 1; } catch (e) { print(2); } } throw f();", "1")

    def test_each_end_of_a_try_in_a_loop(self):
        for end, lines in (("", "0 1 2 |"), ("break;", "0 |"), ("continue;", "0 1 2 |")):
            expected = lines.replace("|", "end").split()
            self.check(f"for (x in range(3)) {{ try {{ print(x); {end} }} catch (e) {{ }} }} print(\"end\");", *expected)
            self.check(f"for (x in range(3)) {{ try {{ throw x; }} catch (e) {{ print(e); {end} }} }} print(\"end\");",
                       *expected)
            self.check(f"let n = 0; while (n < 3) {{ try {{ throw n; }} catch (e) {{ print(e); n = n + 1; {end} }} }}"
                       "print(\"end\");", *expected)
        self.check("fun f() { for (x in range(3)) { try { throw x; } catch (e) { return e; } } } print(f());", "0")
        self.check("fun f() { while (true) { try { return 5; } catch (e) { } } } print(f());", "5")

    def test_loops_in_a_try(self):
        self.check("try { for (x in range(3)) { if (x == 1) break; print(x); } throw 9; } catch (e) { print(e); }", "0", "9")
        self.check("try { for (x in range(3)) { if (x == 1) continue; print(x); } throw 9; } catch (e) { print(e); }",
                   "0", "2", "9")
        self.check("try { while (true) { throw 9; } } catch (e) { print(e); }", "9")

    def test_several_in_one_another(self):
        self.check("for (x in range(4)) { try { try { if (x == 1) continue; if (x == 3) break; throw x; } "
                   "catch (e) { print(e); throw 5; } } catch (f) { print(f); } }", "0", "5", "2", "5")
        self.check("try { for (x in [1]) { try { for (y in [2]) { try { throw y; } catch (a) { throw a + 1; } } } "
                   "catch (b) { throw b + 1; } } } catch (c) { print(c); }", "4")

    def test_out_of_calls(self):
        self.check("fun f(n) { if (n == 0) throw \"deep\"; try { f(n - 1); } catch (e) { throw e + str(n); } }"
                   "try { f(3); } catch (e) { print(e); }", "deep123")
        self.check("fun f() { throw 1; } let x = 5; try { let y = [x, f()]; } catch (e) { print(e, x); }", "1 5")

    def test_operands_are_left_behind(self):
        self.check("fun f() { try { return 1 + [2, 3 + (4 / 0)]; } catch (e) { return 7; } } print(1 + f());", "8")

    def test_objects(self):
        self.assertEqual(made_by("try { throw 5; } catch (e) { }"), [("Variable", 5)])
        self.assertEqual(made_by("try { -null; } catch (e) { }"), [
            ("Instance", Ref(0), ("kind", "KindError"), ("message", "cannot negate null")), ("Variable", Ref(1))])


class EndsTest(StatementsTest):
    """Point [44]."""

    def test_finished(self):
        meaning = meant("print(1);")
        self.assertEqual((meaning.ended, meaning.thrown, meaning.store.output), ("finished", None, ["1"]))

    def test_failed(self):
        for value, thrown in (("null", None), ("true", True), ("5", 5), ("\"a\"", "a"), ("Error", Ref(0)),
                              ("print", Builtin("print")), ("[]", Ref(1))):
            meaning = meant(f"print(1); throw {value}; print(2);")
            self.assertEqual((meaning.ended, meaning.thrown, meaning.store.output), ("failed", thrown, ["1"]))
        meaning = meant("print(1); 1 / 0; print(2);")
        self.assertEqual((meaning.ended, meaning.thrown, meaning.store.output), ("failed", Ref(1), ["1"]))

    def test_waiting(self):
        meaning = meant("print(1); let x = read(); print(x); try { read(); } catch (e) { print(3); } print(4);", "a")
        self.assertEqual((meaning.ended, meaning.thrown, meaning.store.output), ("waiting", None, ["1", "a"]))
        self.assertEqual((meaning.store.taken, len(meaning.store.things)), (1, 2))
        agreement("print(1); let x = read(); print(x); read();", "a")

    def test_reading(self):
        self.assertEqual(output_of("print(read() + read());", "a", "b", "c"), ["ab"])
        agreement("for (x in [1, 2]) print(read());", "a", "b")

    def test_the_order_in_which_objects_are_made(self):
        made = made_by("let x = [1, [2]]; class A { init(v) { this.v = v; } } let a = A({\"k\": x}); a.init;")
        self.assertEqual(made, [
            ("Parts", 2), ("Parts", 1, Ref(1)), ("Variable", Ref(2)),
            ("Variable", Ref(6)), ("Variable", None), ("Kin", "A", None), ("Closure", 1, 2, (Ref(5), Ref(4), Ref(3))),
            ("Table", ("k", Ref(2))), ("Instance", Ref(6), ("v", Ref(8))), ("Variable", Ref(9)), ("Variable", Ref(8)),
            ("Variable", Ref(9)), ("Bound", Ref(9), Ref(7))])


if __name__ == "__main__":
    unittest.main()
