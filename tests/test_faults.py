"""The faults of a tree, programs, and expressions read with names in scope: points [19] and [21] to [23]."""

import unittest

from helpers import refusal, unmarked
from livequill.names.faults import (
    MOST_ARGUMENTS, MOST_FUNCTIONS, MOST_PARAMETERS, faults_in, faults_of, read_program,
)
from livequill.names.language import FUNCTION_NAMES
from livequill.text.parser import parse, parse_expression

THIS = "this outside of a method"
SUPER = "super outside of a method"
BREAK = "break outside of a loop"
CONTINUE = "continue outside of a loop"
RETURN = "return outside of a function"
INIT = "init returns no value"
MANY_ARGUMENTS = "more than 8 arguments"
MANY_PARAMETERS = "more than 8 parameters"
MANY_FUNCTIONS = "more than 40 functions"


def several(many):
    return ", ".join(f"a{index}" for index in range(many))


class FaultsTest(unittest.TestCase):
    def check(self, marked, *messages):
        """The faults of the tree are at the marks, in this order."""
        text, offsets = unmarked(marked)
        with self.subTest(marked):
            self.assertEqual(faults_of(parse(text)), list(zip(offsets, messages, strict=True)))

    def check_expression(self, marked, scope, *messages, first=1):
        text, offsets = unmarked(marked)
        with self.subTest(marked):
            term = parse_expression(text, first=first)
            self.assertEqual(faults_in(term, scope), list(zip(offsets, messages, strict=True)))


class NamesTest(FaultsTest):
    def test_bounds(self):
        self.assertEqual((MOST_ARGUMENTS, MOST_PARAMETERS, MOST_FUNCTIONS), (8, 8, 40))

    def test_declared(self):
        self.check("let x = 1; x; x = 2; { x; let y = x; y; }")
        self.check("fun f(x) { return f(x) + g(x); } fun g(x) { return f; } class A extends B { } class B extends A { }")
        self.check("for (x in [1]) x; try { } catch (y) { y; }")
        self.check("class A extends Error { m() { return [A, this]; } }")

    def test_used(self):
        self.check("@x;", "x is not declared")
        self.check("print(@x, [@y], @z.a);", *[f"{name} is not declared" for name in "xyz"])
        self.check("@x();", "x is not declared")
        self.check("@x.y(1);", "x is not declared")
        self.check("@x[0] = 1; @y.z = 1;", "x is not declared", "y is not declared")
        self.check("let x = @x;", "x is not declared")
        self.check("@x; let x = 1;", "x is not declared")
        self.check("{ let x = 1; } @x;", "x is not declared")
        self.check("fun f(x) { } @x;", "x is not declared")
        self.check("for (x in @x) { } @x;", *["x is not declared"] * 2)
        self.check("try { @x; } catch (x) { } @x;", *["x is not declared"] * 2)
        self.check("@f(); 1; fun f() { }", "f is not declared")

    def test_assigned_to(self):
        self.check("@x = 1;", "x is not declared")
        self.check("@x = @y;", "x is not declared", "y is not declared")
        self.check("let x = @x = 1;", "x is not declared")

    def test_parents(self):
        self.check("class A extends @B { }", "B is not declared")
        self.check("class A extends print { }")
        self.check("class A extends @B { } 1; class C extends @D { } 2; class D { }",
                   "B is not declared", "D is not declared")

    def test_this(self):
        self.check("class A { m() { this; print(fun () { this; }); fun f(x) { this; } class B { n() { this; } } } }")
        self.check("@this;", THIS)
        self.check("fun f() { return @this; }", THIS)
        self.check("@this.x = @this;", THIS, THIS)
        self.check("class A { m() { } } @this;", THIS)

    def test_super(self):
        self.check("class A { m() { super.m(); return fun () { super.m(); }; } }")
        self.check("@super.m();", SUPER)
        self.check("fun f() { @super.m(@x); }", SUPER, "x is not declared")

    def test_names_of_the_language(self):
        for name in (*FUNCTION_NAMES, "Error"):
            self.check(f"{name}; {name}(1); let x = [{name}];")
            self.check(f"@{name} = 1;", f"{name} cannot be assigned")
            self.check(f"let {name} = 1; {name} = 2;")
            self.check(f"fun {name}({name}) {{ {name} = 2; }} {name} = 1;")
            self.check(f"class {name} {{ }} {name} = 1;")
            self.check(f"for ({name} in 1) {name} = 1; @{name} = 2;", f"{name} cannot be assigned")
            self.check(f"try {{ @{name} = 1; }} catch ({name}) {{ {name} = 1; }}", f"{name} cannot be assigned")

    def test_names_like_those_of_the_language(self):
        self.check("@Print; @error; @prints;", *[f"{name} is not declared" for name in ("Print", "error", "prints")])


class CountsTest(FaultsTest):
    def test_arguments(self):
        eight = ", ".join("12345678")
        for head in ("print(", "print.x("):
            self.check(f"{head}{eight});")
        self.check(f"class A {{ m() {{ super.m({eight}); }} }}")
        self.check(f"print@({eight}, 9);", MANY_ARGUMENTS)
        self.check(f"print@.x({eight}, 9);", MANY_ARGUMENTS)
        self.check(f"class A {{ m() {{ @super.m({eight}, 9); }} }}", MANY_ARGUMENTS)
        self.check(f"print@(print@({eight}, 9), {eight});", MANY_ARGUMENTS, MANY_ARGUMENTS)
        self.check(f"[{eight}, 9];")

    def test_super_with_two_faults(self):
        text = f"super.m({', '.join('123456789')});"
        self.assertEqual(faults_of(parse(text)), [(0, SUPER), (0, MANY_ARGUMENTS)])

    def test_parameters(self):
        self.check(f"fun f({several(8)}) {{ }}")
        self.check(f"@fun f({several(9)}) {{ }}", MANY_PARAMETERS)
        self.check(f"let f = fun ({several(8)}) {{ }};")
        self.check(f"let f = @fun ({several(12)}) {{ }};", MANY_PARAMETERS)

    def test_parameters_of_methods(self):
        self.check(f"class A {{ m({several(8)}) {{ }} init({several(8)}) {{ }} }}")
        self.check(f"class A {{ @m({several(9)}) {{ }} }}", MANY_PARAMETERS)

    def test_functions(self):
        self.check("fun () { };" * 40)
        self.check("fun () { };" * 40 + "@fun () { };", MANY_FUNCTIONS)
        self.check("fun () { };" * 40 + "@fun () { }; fun () { }; fun () { };", MANY_FUNCTIONS)
        methods = " ".join(f"m{index}() {{ }}" for index in range(40))
        self.check(f"class A {{ {methods} }}")
        self.check(f"class A {{ {methods} @n() {{ }} }}", MANY_FUNCTIONS)
        self.check(f"class A {{ {methods} }} @fun f() {{ }}", MANY_FUNCTIONS)


class TwiceTest(FaultsTest):
    def test_methods(self):
        self.check("class A { m() { } n() { } @m() { } @m(x) { } }", *["m is declared twice"] * 2)
        self.check("class A { init() { } @init() { } }", "init is declared twice")
        self.check("class A { m() { } } class B { m() { } }")
        self.check("class A { A() { } }")

    def test_parameters(self):
        self.check("@fun f(x, y, x) { }", "x is declared twice")
        self.assertEqual(faults_of(parse("fun f(x, y, y, x, x) { }")),
                         [(0, "y is declared twice"), (0, "x is declared twice"), (0, "x is declared twice")])
        self.check("class A { @m(x, x) { } }", "x is declared twice")
        self.check("let x = 1; fun f(x) { let x = 2; return fun (x) { }; }")
        self.check("fun f(f) { }")

    def test_members(self):
        self.check("fun f() { } fun @f() { } class @f { } fun g() { }", *["f is declared twice"] * 2)
        self.check("class A { } class @A { }", "A is declared twice")
        self.check("fun f() { } 1; fun f() { }")
        self.check("fun f() { } let f = 1; fun f() { }")

    def test_variables_can_be_declared_again(self):
        self.check("let x = 1; let x = x; { let x = x; } for (x in x) { let x = 1; }")


class LoopsTest(FaultsTest):
    def test_in_loops(self):
        self.check("while (1) { break; continue; if (1) break; else continue; }")
        self.check("for (x in 1) { { break; } try { continue; } catch (y) { break; } }")
        self.check("while (1) break; for (x in 1) continue;")
        self.check("fun f() { while (1) break; }")

    def test_outside(self):
        self.check("@break;", BREAK)
        self.check("@continue;", CONTINUE)
        self.check("if (1) @break; else @continue;", BREAK, CONTINUE)
        self.check("while (1) { } @break;", BREAK)
        self.check("{ @continue; for (x in 1) continue; @continue; }", CONTINUE, CONTINUE)

    def test_in_a_function_within_a_loop(self):
        self.check("while (1) { print(fun () { @break; }); break; }", BREAK)
        self.check("for (x in 1) { fun f() { @continue; while (1) continue; } continue; }", CONTINUE)
        self.check("while (1) { class A { m() { @break; } } }", BREAK)
        self.check("for (x in fun () { @break; }) { }", BREAK)


class ReturnTest(FaultsTest):
    def test_in_the_program(self):
        self.check("@return;", RETURN)
        self.check("@return 1;", RETURN)
        self.check("{ while (1) @return; }", RETURN)
        self.check("try { @return @x; } catch (y) { @return; }", RETURN, "x is not declared", RETURN)

    def test_in_functions(self):
        self.check("fun f() { return 1; } class A { m() { return 1; } } print(fun () { return 1; });")
        self.check("fun init() { return 1; } let init = fun () { return 1; };")

    def test_in_init(self):
        self.check("class A { init() { return; } } class B { init() { return null; } } class C { init() { return (null); } }")
        self.check("class A { init() { @return 1; } }", INIT)
        self.check("class A { init() { while (1) { if (1) @return this; @return false; } } }", INIT, INIT)
        self.check("class A { init() { @return [null]; } }", INIT)

    def test_in_functions_within_init(self):
        self.check("class A { init() { print(fun () { return 1; }); fun f() { return 1; } let init = fun () { return 1; };"
                   " fun init() { return 1; } class B { m() { return 1; } } } m() { return 1; } }")
        self.check("class A { m() { class B { init() { @return 1; } } return 1; } }", INIT)
        self.check("class A { init() { class B { init() { @return 1; } m() { return 1; } } @return 1; } }", INIT, INIT)


class OrderTest(FaultsTest):
    def test_by_offsets(self):
        self.check("@x; @break; @return @this; @super.m(@y); @print = @z;", "x is not declared", BREAK, RETURN, THIS,
                   SUPER, "y is not declared", "print cannot be assigned", "z is not declared")
        self.check("class A { m() { @x; } @m() { @y; } }", "x is not declared", "m is declared twice", "y is not declared")
        self.check("fun f() { @x; } @fun @f(a, a) { }", "x is not declared", "a is declared twice", "f is declared twice")

    def test_a_call_comes_behind_what_it_calls(self):
        nine = ", ".join("123456789")
        self.check(f"@f@({nine}, @x);", "f is not declared", MANY_ARGUMENTS, "x is not declared")

    def test_at_one_offset(self):
        names = several(9)
        text = "fun () { };" * 39 + f"class A {{ m() {{ }} m({names}, a1, a0) {{ }} }}"
        offset = text.rindex("m(")
        self.assertEqual(faults_of(parse(text)), [
            (offset, "m is declared twice"), (offset, MANY_PARAMETERS), (offset, "a1 is declared twice"),
            (offset, "a0 is declared twice"), (offset, MANY_FUNCTIONS)])

    def test_the_list_is_new(self):
        tree = parse("x;")
        faults_of(tree).clear()
        self.assertEqual(faults_of(tree), [(0, "x is not declared")])


class ReadProgramTest(unittest.TestCase):
    def test_programs(self):
        for text in ("", "let x = 1; print(x);", "class A { m() { return this; } }"):
            self.assertEqual(read_program(text), parse(text))

    def test_a_text_without_a_tree(self):
        self.assertEqual(refusal(read_program, "let = 1;"), (4, "expected a name"))
        self.assertEqual(refusal(read_program, "1 %"), (2, "this character is not allowed"))
        self.assertEqual(refusal(read_program, "a" + ".x" * 70 + ";"), (0, "nested too deeply"))

    def test_a_tree_with_faults(self):
        self.assertEqual(refusal(read_program, "1; x; y;"), (3, "x is not declared"))
        self.assertEqual(refusal(read_program, "fun f() { y; } fun f(x, x) { }"), (10, "y is not declared"))

    def test_the_fault_of_the_text_comes_first(self):
        self.assertEqual(refusal(read_program, "x; break; 1"), (11, "expected ;"))


class FaultsInTest(FaultsTest):
    def test_names_in_scope(self):
        self.check_expression("x + @y", ("x",), "y is not declared")
        self.check_expression("x = y = @z = 1", ("x", "y", "", "super"), "z is not declared")
        self.check_expression("print(@print = 1)", (), "print cannot be assigned")
        self.check_expression("print = 1", ("print",))
        self.check_expression("fun (y) { return x + y + @z; }", ("x",), "z is not declared")
        self.check_expression("1 + 2", ())

    def test_this_and_super(self):
        self.check_expression("this", ("this", "super"))
        self.check_expression("@this", (), THIS)
        self.check_expression("super.m()", ("x", "this", "", "super"))
        self.check_expression("@super.m()", ("super",), SUPER)
        self.check_expression("@super.m()", ("this",), SUPER)
        self.check_expression("fun () { return super.m(this); }", ("this", "super"))

    def test_no_loop_around(self):
        self.check_expression("fun () { @break; while (1) { break; } @continue; }", (), BREAK, CONTINUE)

    def test_no_init_around(self):
        self.check_expression("fun () { return 1; }", ("this", "super"))
        self.check_expression("fun () { class A { init() { @return 1; } } return 1; }", (), INIT)

    def test_statements_stand_in_a_function(self):
        # A block is read here as what stands in a function that is no "init".
        (block,) = parse("{ return 1; }")[1]
        self.assertEqual(faults_in(block, ()), [])

    def test_other_faults(self):
        nine = ", ".join("123456789")
        self.check_expression(f"print@({nine})", (), MANY_ARGUMENTS)
        self.check_expression(f"[@fun ({several(9)}) {{ }}, @fun (x, x) {{ }}]", (), MANY_PARAMETERS, "x is declared twice")
        self.check_expression("fun () { fun f() { } fun @f() { } class A { m() { } @m() { } } }", (),
                              "f is declared twice", "m is declared twice")

    def test_the_number_of_the_function(self):
        two = "[fun () { }, fun () { }]"
        marked = "[fun () { }, @fun () { }]"
        self.check_expression(two, ())
        self.check_expression(two, (), first=39)
        self.check_expression(marked, (), MANY_FUNCTIONS, first=40)
        self.check_expression("[@fun () { }, fun () { }]", (), MANY_FUNCTIONS, first=41)
        self.check_expression(two, (), first=42)
        self.check_expression("[" + "fun () { }, " * 40 + "1]", ())
        self.check_expression("[" + "fun () { }, " * 40 + "@fun () { }]", (), MANY_FUNCTIONS)


if __name__ == "__main__":
    unittest.main()
