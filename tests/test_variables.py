"""The names in scope in a frame, and its variables: point [61]."""

import unittest

from livequill.asking.program import Program
from livequill.asking.variables import names_of, variable_of, variables_of
from livequill.machine.frames import Frame
from livequill.values.refs import Ref
from machines import machine_where
from programs import programs


def names_before(text, number=0):
    """The names in scope before each instruction of a function, as pairs of its word and the names in one text."""
    program = Program(text)
    found = []
    for at, row in enumerate(program.chunks[number].rows):
        frame = Frame(number, ())
        frame.at = at
        names = names_of(program, frame)
        assert isinstance(names, tuple)
        found.append((row[0], " ".join(name or "-" for name in names)))
    return found


def machine_at(text, steps, *lines):
    program = Program(text)
    return program, program.after(list(lines), steps)


class NamesTest(unittest.TestCase):
    def test_let_and_blocks(self):
        self.assertEqual(names_before("let a = 1; { let b = a; b; } let c = 2;"), [
            ("const", ""), ("declare", ""), ("load", "a"), ("declare", "a"), ("load", "b a"), ("pop", "b a"),
            ("drop", "b a"), ("const", "a"), ("declare", "a"), ("drop", "c a"), ("drop", "a"), ("const", ""),
            ("ret", "")])

    def test_a_group_comes_into_scope_one_by_one(self):
        self.assertEqual(names_before("fun f() { } fun g() { }"), [
            ("blank", ""), ("blank", "g"), ("closure", "f g"), ("save", "f g"), ("pop", "f g"), ("closure", "f g"),
            ("save", "f g"), ("pop", "f g"), ("drop", "f g"), ("const", ""), ("ret", "")])

    def test_for(self):
        self.assertEqual(names_before("for (x in []) x;"), [
            ("list", ""), ("iter", ""), ("declare", ""), ("next", "-"), ("declare", "-"), ("load", "x -"),
            ("pop", "x -"), ("drop", "x -"), ("jump", "-"), ("drop", "-"), ("const", ""), ("ret", "")])

    def test_try(self):
        self.assertEqual(names_before("try { let a = 1; } catch (e) { e; }"), [
            ("enter", ""), ("const", ""), ("declare", ""), ("drop", "a"), ("leave", ""), ("jump", ""),
            ("declare", ""), ("load", "e"), ("pop", "e"), ("drop", "e"), ("const", ""), ("ret", "")])

    def test_while_with_break(self):
        self.assertEqual(names_before("while (1) { let a = 1; if (a) break; a; }"), [
            ("const", ""), ("unless", ""), ("const", ""), ("declare", ""), ("load", "a"), ("unless", "a"),
            ("escape", "a"), ("jump", "a"), ("load", "a"), ("pop", "a"), ("drop", "a"), ("jump", ""),
            ("const", ""), ("ret", "")])

    def test_a_class(self):
        text = "class A extends Error { m(x, y) { let z = x; } }"
        self.assertEqual(names_before(text), [
            ("blank", ""), ("const", "A"), ("declare", "A"), ("class", "super A"), ("closure", "super A"),
            ("method", "super A"), ("drop", "super A"), ("save", "A"), ("pop", "A"), ("drop", "A"), ("const", ""),
            ("ret", "")])
        self.assertEqual(names_before(text, 1), [
            ("load", "this x y super A"), ("declare", "this x y super A"), ("drop", "z this x y super A"),
            ("const", "this x y super A"), ("ret", "this x y super A")])

    def test_functions_in_functions(self):
        text = "let a = 1; let f = fun (x) { for (y in x) { return fun (x, z) { a; }; } };"
        self.assertEqual(names_before(text, 2)[0], ("load", "x z y - x a"))
        # The two instructions at the end of a function have only its parameters and the names around it.
        self.assertEqual(names_before(text, 1)[-2:], [("const", "x a"), ("ret", "x a")])

    def test_names_and_scopes_go_together(self):
        for text in programs(61, 40):
            program = Program(text)
            machine = program.start(["7"])
            while machine.steps < 400 and machine.status() == "running":
                for frame in machine.frames:
                    self.assertEqual(len(names_of(program, frame)), len(frame.scope), text)
                machine.step()


class VariablesTest(unittest.TestCase):
    def test_values_are_shown(self):
        program, machine = machine_at("let a = \"x\"; let b = [1, null]; let c = {true: \"y\"};", 10)
        (frame,) = machine.frames
        self.assertEqual(variables_of(program, machine, frame), [("c", "{true: \"y\"}"), ("b", "[1, null]"), ("a", "\"x\"")])

    def test_long_values_are_shortened(self):
        program, machine = machine_at(f"let a = \"{'x' * 200}\";", 2)
        self.assertEqual(variables_of(program, machine, machine.frames[0]), [("a", "\"" + "x" * 99 + "...")])

    def test_at_the_beginning_and_at_the_end(self):
        program, machine = machine_at("let a = 1;", 0)
        self.assertEqual(variables_of(program, machine, machine.frames[0]), [])
        machine.run(2)
        self.assertEqual(variables_of(program, machine, machine.frames[0]), [("a", "1")])
        machine.run(1)
        self.assertEqual(variables_of(program, machine, machine.frames[0]), [])
        machine.run(10)
        self.assertEqual(machine.frames, [])

    def test_a_name_that_occurs_twice(self):
        program, machine = machine_at("let a = 1; { let a = 2; { let a = 3; a; } }", 6)
        frame = machine.frames[0]
        self.assertEqual(variables_of(program, machine, frame), [("a", "3"), ("a", "2"), ("a", "1")])
        self.assertEqual(machine.store.at(variable_of(program, frame, "a")).value, 3)

    def test_iterators_and_parents_are_left_out(self):
        text = "class A { m(p) { for (x in p) { print(x); } } } class B extends A { m(p) { super.m(p); } } B().m([5]);"
        program, machine = machine_where(text, lambda machine: len(machine.frames) == 3 and machine.frames[0].at == 5)
        inner, middle, outer = machine.frames
        self.assertEqual(names_of(program, inner), ("x", "", "this", "p", "super", "A", "B"))
        self.assertEqual(variables_of(program, machine, inner),
                         [("x", "5"), ("this", "<B>"), ("p", "[5]"), ("A", "<class A>"), ("B", "<class B>")])
        self.assertEqual(variables_of(program, machine, middle),
                         [("this", "<B>"), ("p", "[5]"), ("A", "<class A>"), ("B", "<class B>")])
        self.assertEqual(variables_of(program, machine, outer), [("A", "<class A>"), ("B", "<class B>")])
        self.assertEqual(variable_of(program, inner, ""), inner.scope[1])
        self.assertEqual(variable_of(program, inner, "super"), inner.scope[4])
        self.assertIsNone(machine.store.at(inner.scope[4]).value)
        self.assertEqual(machine.store.at(variable_of(program, middle, "super")).value,
                         machine.store.at(variable_of(program, middle, "A")).value)
        self.assertIsNone(variable_of(program, middle, ""))
        self.assertIsNone(variable_of(program, outer, "this"))

    def test_names_that_are_not_in_scope(self):
        program, machine = machine_at("let a = 1; { let b = 2; } a;", 5)
        frame = machine.frames[0]
        self.assertEqual(variable_of(program, frame, "a"), Ref(1))
        self.assertIsNone(variable_of(program, frame, "b"))
        self.assertIsNone(variable_of(program, frame, "print"))
        self.assertIsNone(variable_of(program, frame, "Error"))

    def test_a_name_of_the_language_that_is_hidden(self):
        program, machine = machine_at("let print = 4;", 2)
        self.assertEqual(variables_of(program, machine, machine.frames[0]), [("print", "4")])

    def test_the_machine_stays_as_it_is(self):
        program, machine = machine_at("let a = [1]; a;", 4)
        variables = variables_of(program, machine, machine.frames[0])
        variables.clear()
        self.assertEqual(variables_of(program, machine, machine.frames[0]), [("a", "[1]")])
        self.assertEqual(machine.steps, 4)


if __name__ == "__main__":
    unittest.main()
