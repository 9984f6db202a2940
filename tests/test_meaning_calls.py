"""Calls in the evaluation of a program: point [42]."""

import unittest

from livequill.values.refs import Ref
from stores import TOO_MANY_CALLS, WRONG, arity
from runs import agreement, failure_of, made_by, meant, output_of

# Calls f() within n calls of `at`.
NESTED = "fun at(n, f) { if (n == 1) return f(); return at(n - 1, f); }\n"


def deepest(call, before="", calls=60):
    """A program that makes a call while so many calls are in progress, and prints the result."""
    return NESTED + before + f"print(at({calls - 2}, fun () {{ return {call}; }}));"


class FunctionsTest(unittest.TestCase):
    def test_values(self):
        self.assertEqual(output_of("fun f() { } fun g() { return; } fun h(x) { return x; } print(f(), g(), h([1]));"),
                         ["null null [1]"])
        self.assertEqual(output_of("fun f(x) { if (x) return 1; } print(f(true), f(false));"), ["1 null"])
        self.assertEqual(output_of("print((fun (x, y) { return x * y; })(6, 7));"), ["42"])

    def test_numbers_of_arguments(self):
        for wanted in range(4):
            params = ", ".join(f"p{number}" for number in range(wanted))
            for got in range(5):
                text = f"fun f({params}) {{ return 1; }} f({', '.join(['0'] * got)});"
                if got == wanted:
                    self.assertEqual(output_of(text), [])
                else:
                    self.assertEqual(failure_of(text), arity(wanted, got))

    def test_variables(self):
        made = made_by("let o = 9; fun f(x, y) { } f(1, 2);")
        self.assertEqual(made, [("Variable", 9), ("Variable", Ref(3)), ("Closure", 1, 2, (Ref(2), Ref(1))),
                                ("Variable", 1), ("Variable", 2)])
        self.assertEqual(output_of("let x = 1; fun f(x) { x = x + 1; return x; } print(f(x), f(x), x);"), ["2 2 1"])
        self.assertEqual(output_of("fun f(x) { let x = 5; return x; } print(f(1));"), ["5"])

    def test_the_scope_is_that_of_the_making(self):
        self.assertEqual(output_of("let x = 1; fun f() { return x; } { let x = 2; print(f()); } x = 3; print(f());"),
                         ["1", "3"])
        self.assertEqual(output_of("fun counter() { let n = 0; return fun () { return n = n + 1; }; }"
                                   "let a = counter(); let b = counter(); a(); print(a(), b(), a());"), ["2 1 3"])

    def test_exceptions_are_thrown_by_the_call(self):
        self.assertEqual(output_of("fun f() { throw 1; } fun g() { f(); print(\"no\"); }"
                                   "try { g(); } catch (e) { print(e); }"), ["1"])

    def test_recursion(self):
        text = "fun f(n) { if (n == 0) return 0; return 1 + f(n - 1); }"
        self.assertEqual(output_of(text + "print(f(58));"), ["58"])
        self.assertEqual(failure_of(text + "f(59);"), TOO_MANY_CALLS)
        # The bound is for the calls in progress, not for all that were made.
        self.assertEqual(output_of(text + "for (i in range(5)) print(f(50));"), ["50"] * 5)
        self.assertEqual(output_of(text + "try { f(99); } catch (e) { print(f(58)); }"), ["58"])

    def test_what_comes_first(self):
        before = "fun one(x) { return x; }"
        self.assertEqual(failure_of(deepest("one(1)", before)), TOO_MANY_CALLS)
        self.assertEqual(failure_of(deepest("one()", before)), arity(1, 0))
        self.assertEqual(output_of(deepest("one(1)", before, calls=59)), ["1"])

    def test_built_in_functions_at_the_bound(self):
        self.assertEqual(output_of(deepest("len(\"abc\")")), ["3"])
        self.assertEqual(output_of(deepest("[1, 2].length()")), ["2"])
        self.assertEqual(output_of(deepest("Error(\"a\", \"b\").kind")), ["a"])
        self.assertEqual(failure_of(deepest("len()")), arity(1, 0))

    def test_other_values(self):
        for value, kind in (("null", "null"), ("true", "boolean"), ("5", "integer"), ("\"f\"", "text"), ("[]", "list"),
                            ("({})", "map"), ("Error(\"a\", \"b\")", "instance")):
            self.assertEqual(failure_of(f"{value}(1);"), ("KindError", f"cannot call {kind}"))
            self.assertEqual(failure_of(deepest(f"{value}()")), ("KindError", f"cannot call {kind}"))

    def test_what_is_made_ahead_of_an_error(self):
        made = made_by("fun f(x) { } f();")
        self.assertEqual([thing[0] for thing in made], ["Variable", "Closure", "Instance"])
        made = made_by("fun f(x) { } f([1], [2]);")
        self.assertEqual([thing[0] for thing in made], ["Variable", "Closure", "Parts", "Parts", "Instance"])
        made = made_by("class A { init(x) { } } A();")
        self.assertEqual([thing[0] for thing in made], ["Variable", "Variable", "Kin", "Closure", "Instance"])
        self.assertEqual(made[-1], ("Instance", Ref(0), ("kind", "ArityError"),
                                    ("message", "expected 1 arguments, got 0")))
        made = made_by(deepest("A(1)", "class A { init(x) { } }"))
        self.assertEqual(made[-1][3], ("message", "too many calls"))
        self.assertEqual([thing[0] for thing in made[-3:]], ["Variable", "Variable", "Instance"])
        # A wrong parent: the variable that holds it was made before.
        made = made_by("class A extends print { m() { } }")
        self.assertEqual([thing[0] for thing in made], ["Variable", "Variable", "Instance"])


class MethodsTest(unittest.TestCase):
    CLASSES = ("class A { m(x) { return [\"A\", this.v, x]; } k() { return this.m(1); } }"
               "class B extends A { m(x) { return [\"B\", super.m(x)]; } } "
               "class C extends B { } let c = C(); c.v = 7;")

    def check(self, text, *lines):
        self.assertEqual(output_of(self.CLASSES + text), list(lines))

    def test_methods(self):
        self.check("print(c.m(2)); print(c.k()); let a = A(); a.v = 1; print(a.k());",
                   "[\"B\", [\"A\", 7, 2]]", "[\"B\", [\"A\", 7, 1]]", "[\"A\", 1, 1]")

    def test_bound_methods(self):
        self.check("let m = c.m; c.v = 8; print(m(3), kind(m), m == c.m, m == m);",
                   "[\"B\", [\"A\", 8, 3]] function false true")
        self.check("let other = A(); other.f = c.m; print(other.f(1)); print((c.m)(5));",
                   "[\"B\", [\"A\", 7, 1]]", "[\"B\", [\"A\", 7, 5]]")
        made = made_by("class A { m() { } } let a = A(); a.m; a.m();")
        self.assertEqual([thing[0] for thing in made],
                         ["Variable", "Variable", "Kin", "Closure", "Instance", "Variable", "Bound", "Variable"])

    def test_numbers_of_arguments(self):
        for call, wanted, got in (("c.m()", 1, 0), ("c.m(1, 2)", 1, 2), ("c.k(1)", 0, 1), ("(c.m)()", 1, 0),
                                  ("(c.k)(1, 2)", 0, 2)):
            self.assertEqual(failure_of(self.CLASSES + call + ";"), arity(wanted, got))
        self.assertEqual(failure_of("class A { m(x) { } } class B extends A { n() { super.m(); } } B().n();"),
                         arity(1, 0))
        self.assertEqual(failure_of("class A { init(x, y) { } } class B extends A { } B(1);"), arity(2, 1))

    def test_fields_that_hold_functions(self):
        self.check("c.m = fun (x) { return [\"field\", x]; }; print(c.m(4)); print(c.k());",
                   "[\"field\", 4]", "[\"field\", 1]")
        self.check("c.f = len; print(c.f(\"ab\")); c.g = A; print(c.g());", "2", "<A>")
        self.assertEqual(failure_of(self.CLASSES + "c.m = 5; c.m(1);"), ("KindError", "cannot call integer"))
        self.assertEqual(failure_of(self.CLASSES + "c.none();"), ("FieldError", "instance has no field none"))
        self.assertEqual(failure_of(self.CLASSES + "C.m(1);"), ("FieldError", "class has no field m"))
        self.assertEqual(failure_of("null.m();"), ("FieldError", "null has no field m"))

    def test_methods_of_lists_texts_and_maps(self):
        self.assertEqual(output_of("let l = [3, 1]; l.sort(); l.push(\"a\".upper()); print(l, {1: 2}.get(1, 0));"), ["[1, 3, \"A\"] 2"])
        self.assertEqual(failure_of("[1].none();"), ("FieldError", "list has no field none"))
        self.assertEqual(failure_of("[].pop();"), ("IndexError", "index out of range"))

    def test_depth(self):
        before = ("class P { m() { return 1; } } let p = P(); let m = p.m;"
                  "class A extends P { init(x) { } k() { return super.m(); } } let a = A(0);")
        for call, bound in (("A(1)", 59), ("a.m()", 59), ("m()", 59), ("a.k()", 58)):
            self.assertEqual(failure_of(deepest(call, before, calls=bound + 1)), TOO_MANY_CALLS)
            self.assertEqual(len(output_of(deepest(call, before, calls=bound))), 1)
        for call, wanted, got in (("A()", 1, 0), ("a.m(1)", 0, 1), ("m(1)", 0, 1)):
            self.assertEqual(failure_of(deepest(call, before)), arity(wanted, got))
        self.assertEqual(output_of(deepest("P()", before)), ["<P>"])

    def test_functions_in_methods(self):
        self.check("class D extends C { n() { let f = fun () { return [this.v, super.m(0)]; }; return f(); } }"
                   "let d = D(); d.v = 3; print(d.n());", "[3, [\"B\", [\"A\", 3, 0]]]")


class ClassesTest(unittest.TestCase):
    def test_with_init(self):
        self.assertEqual(output_of("class A { init(x, y) { this.x = x; this.y = y; } } let a = A(1, 2); print(a, a.x, a.y);"
                                   ), ["<A> 1 2"])
        self.assertEqual(output_of("class A { init() { if (true) return; this.x = 1; } } print(kind(A()));"), ["instance"])
        self.assertEqual(output_of("class A { init(x) { this.x = x; } } class B extends A { } print(B(5), B(5).x);"),
                         ["<B> 5"])

    def test_a_throwing_init(self):
        self.assertEqual(output_of("class A { init() { throw this; } } try { A(); } catch (e) { print(e); }"), ["<A>"])

    def test_init_that_is_called_as_a_method(self):
        text = "class A { init(x) { this.x = x; } } let a = A(1); print(a.init(2), a.x); let i = a.init; print(i(3), a.x);"
        self.assertEqual(output_of(text), ["null 2", "null 3"])

    def test_init_is_a_field(self):
        self.assertEqual(output_of("class A { init() { this.init = 5; } } print(A().init);"), ["5"])

    def test_without_init(self):
        self.assertEqual(output_of("class A { } class B extends A { } print(A(), B(), B() is A, A() is B);"),
                         ["<A> <B> true false"])
        self.assertEqual(failure_of("class A { } A(1);"), arity(0, 1))
        self.assertEqual(failure_of("class A { } class B extends A { } B(1, 2);"), arity(0, 2))

    def test_error(self):
        self.assertEqual(output_of("let e = Error(\"a\", \"b\"); print(e, e.kind, e.message, e is Error);"),
                         ["<Error> a b true"])
        self.assertEqual(output_of("class E extends Error { } class F extends E { } let e = F(\"a\", \"b\");"
                                   "print(e, e.kind, e.message, e is Error, e is E);"), ["<F> a b true true"])
        for name in ("Error", "E", "F"):
            before = "class E extends Error { } class F extends E { } "
            for arguments, failure in (("", arity(2, 0)), ("\"a\"", arity(2, 1)), ("1, 2, 3", arity(2, 3)),
                                       ("1, \"a\"", WRONG), ("\"a\", null", WRONG), ("true, false", WRONG)):
                self.assertEqual(failure_of(before + f"{name}({arguments});"), failure)

    def test_below_error_with_init(self):
        text = ("class E extends Error { init(x) { super.init(\"E\", str(x)); this.x = x; } }"
                "try { throw E(5); } catch (e) { print(e.kind, e.message, e.x, e is Error); }")
        self.assertEqual(output_of(text), ["E 5 5 true"])
        self.assertEqual(failure_of("class E extends Error { init() { } } throw E();"), (None, None))

    def test_groups_in_another_order(self):
        """A class whose parent comes later in its group has none: its variable still holds null."""
        self.assertEqual(output_of("class B extends A { } class A { } print(B() is A);"), ["false"])

    def test_a_parent_that_is_no_class(self):
        for value in ("5", "\"A\"", "[]", "print", "fun () { }"):
            self.assertEqual(failure_of(f"let P = {value}; class A extends P {{ }}"),
                             ("KindError", "the parent is not a class"))


class SuperTest(unittest.TestCase):
    def test_without_a_parent(self):
        for call in ("super.m()", "super.init(\"a\", \"b\")"):
            self.assertEqual(failure_of(f"class A {{ n() {{ {call}; }} }} A().n();"),
                             ("KindError", "there is no parent class"))

    def test_without_the_method(self):
        for parent in ("P", "Error"):
            self.assertEqual(failure_of(f"class P {{ }} class A extends {parent} {{ init() {{ }} n() {{ super.m(); }} }}"
                                        "A().n();"), ("FieldError", "instance has no field m"))
        self.assertEqual(failure_of("class P { } class A extends P { n() { super.init(); } } A().n();"),
                         ("FieldError", "instance has no field init"))
        # Fields of the instance are not looked at.
        self.assertEqual(failure_of("class P { } class A extends P { n() { this.m = print; super.m(); } } A().n();"),
                         ("FieldError", "instance has no field m"))

    def test_the_class_is_that_of_the_text(self):
        self.assertEqual(output_of("class A { m() { return \"A\"; } } class B extends A { m() { return \"B\" + super.m(); } }"
                                   "class C extends B { m() { return \"C\" + super.m(); } } print(C().m());"), ["CBA"])

    def test_methods_above_the_parent(self):
        self.assertEqual(output_of("class A { m() { return 1; } } class B extends A { } "
                                   "class C extends B { m() { return super.m() + 1; } } print(C().m());"), ["2"])

    def test_init_of_error(self):
        before = "class E extends Error { } class F extends E { init(x, y) { print(super.init(x, y)); } }"
        self.assertEqual(output_of(before + "let f = F(\"a\", \"b\"); print(f.kind, f.message);"), ["null", "a b"])
        self.assertEqual(failure_of(before + "F(1, \"b\");"), WRONG)
        self.assertEqual(failure_of("class E extends Error { init() { super.init(\"a\"); } } E();"), arity(2, 1))
        self.assertEqual(output_of("class E extends Error { init() { this.x = 1; this.message = 2; super.init(\"a\", \"b\"); } }"
                                   "let e = E(); print(e.kind, e.message, e.x);"), ["a b 1"])

    def test_the_order_of_errors(self):
        """The arguments come ahead of what is told of the parent."""
        self.assertEqual(failure_of("class A { n() { super.m(1 / 0); } } A().n();")[0], "ZeroDivisionError")


class OthersTest(unittest.TestCase):
    def test_waiting_within_a_call(self):
        text = "fun f() { print(\"in\"); let x = read(); print(x); return x; } print(f(), f());"
        waiting = meant(text, "a")
        self.assertEqual((waiting.ended, waiting.store.output, waiting.store.taken), ("waiting", ["in", "a", "in"], 1))
        self.assertEqual(output_of(text, "a", "b"), ["in", "a", "in", "b", "a b"])

    def test_the_machine_agrees(self):
        texts = [
            deepest("one(1)", "fun one(x) { }"), deepest("A(1)", "class A { init(x) { } }"),
            deepest("e.init(\"a\", \"b\")", "class E extends Error { init(a, b) { super.init(a, b); } } "
                                            "let e = E(\"a\", \"b\");"),
            "class A extends print { m() { } }", "class B extends A { } class A { } print(B() is A);",
            MethodsTest.CLASSES + "print(c.m(2)); print(c.k()); let m = c.m; print(m(3)); c.m(); ",
            "class A { init() { throw this; } } try { A(); } catch (e) { print(e); }",
            "class E extends Error { init(x) { super.init(\"E\", str(x)); this.x = x; } } throw E(5);",
            "class A { n() { super.m(); } } A().n();", "let r = read; class A { } let a = A(); a.r = r; a.r();",
            "let r = read; class A { } let a = A(); a.r = r; try { a.r(1); } catch (e) { print(e.kind); } a.r();",
        ]
        for text in texts:
            agreement(text)


if __name__ == "__main__":
    unittest.main()
