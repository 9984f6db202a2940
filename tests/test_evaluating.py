"""Evaluating expressions in the scope of a frame: point [64]."""

import unittest

from livequill.asking.evaluating import evaluate
from livequill.asking.program import Program
from livequill.asking.variables import variables_of
from livequill.errors import InvalidText
from machines import machine_where, state
from programs import programs

TEXT = """let total = 10;
fun add(n) { total = total + n; return total; }
class A { init(x) { this.x = x; } get(y) { let hidden = y; { let hidden = "inner"; print(hidden); } return this.x; } }
class B extends A { get(y) { for (z in [y]) { super.get(z); } return y; } }
let list = [1, 2];
B(5).get(7);
"""


def is_in(number, word):
    """A function that tells whether a machine is at an instruction with this word in a function with this number."""
    def test(machine):
        frame = machine.frames[0]
        return frame.number == number and machine.chunk_of(number).rows[frame.at][0] == word
    return test


class EvaluateTest(unittest.TestCase):
    def setUp(self):
        self.program, self.machine = machine_where(
            TEXT, lambda machine: len(machine.frames) == 3 and "inner" in machine.frames[0].stack
            and len(machine.frames[0].stack) == 2)

    def answer(self, text, index=0):
        """The answer in the frame with an index; the machine must stay as it is."""
        before = state(self.machine)
        found = evaluate(self.program, self.machine, self.machine.frames[index], text)
        self.assertEqual(state(self.machine), before)
        return found

    def value(self, text, index=0):
        status, value = self.answer(text, index)
        self.assertEqual(status, "finished", value)
        return value

    def failure(self, text, index=0):
        status, value = self.answer(text, index)
        self.assertEqual(status, "failed", value)
        return value

    def fault(self, text, index=0):
        before = state(self.machine)
        with self.assertRaises(InvalidText) as caught:
            evaluate(self.program, self.machine, self.machine.frames[index], text)
        self.assertEqual(state(self.machine), before)
        return caught.exception.offset, caught.exception.message

    def test_the_answer_is_a_pair(self):
        self.assertEqual(self.answer("1 + 1"), ("finished", "2"))
        self.assertEqual(self.answer("1 / 0"), ("failed", "ZeroDivisionError: division by zero"))
        self.assertEqual(self.answer("read()"), ("waiting", None))
        self.assertEqual(self.answer("fun () { while (true) { } }()"), ("running", None))

    def test_names_of_the_frame(self):
        self.assertEqual(self.value("hidden"), "\"inner\"")
        self.assertEqual(self.value("y"), "7")
        self.assertEqual(self.value("this.x"), "5")
        self.assertEqual(self.value("[total, y, this is B]"), "[10, 7, true]")
        self.assertEqual(self.value("z", 1), "7")
        self.assertEqual(self.value("this.get", 1), "<function>")
        self.assertEqual(self.value("list", 2), "[1, 2]")
        self.assertEqual(self.value("print"), "<function>")
        self.assertEqual(self.value("Error"), "<class Error>")

    def test_names_that_are_not_in_scope(self):
        self.assertEqual(self.fault("hidden", 1), (0, "hidden is not declared"))
        self.assertEqual(self.fault(" z"), (1, "z is not declared"))
        self.assertEqual(self.fault("1 + nothing"), (4, "nothing is not declared"))
        self.assertEqual(self.fault("this", 2), (0, "this outside of a method"))
        self.assertEqual(self.fault("super.get(1)", 2), (0, "super outside of a method"))
        self.assertEqual(self.fault("list"), (0, "list is not declared"))

    def test_super(self):
        self.assertEqual(self.value("super.get(1)", 1), "5")
        self.assertEqual(self.failure("super.get(1)"), "KindError: there is no parent class")
        self.assertEqual(self.failure("super.other()", 1), "FieldError: instance has no field other")

    def test_what_is_changed_is_changed_in_a_copy(self):
        self.assertEqual(self.value("total = 11"), "11")
        self.assertEqual(self.value("add(3)", 2), "13")
        self.assertEqual(self.value("add(3)", 2), "13")
        self.assertEqual(self.value("list.push(3)", 2), "null")
        self.assertEqual(self.value("list[0] = 9", 2), "9")
        self.assertEqual(self.value("this.x = [this.x]"), "[5]")
        self.assertEqual(self.value("print(1, 2)"), "null")
        self.assertEqual(self.value("fun () { total = 1; return add(1) + total; }()", 2), "4")

    def test_failures_are_told(self):
        self.assertEqual(self.failure("fun () { throw [1, \"a\"]; }()"), "[1, \"a\"]")
        self.assertEqual(self.failure("this.y"), "FieldError: instance has no field y")
        self.assertEqual(self.failure("fun () { throw this; }()"), "<B>")
        self.assertEqual(self.failure("assert(false, \"" + "m" * 200 + "\")"), "AssertionError: " + "m" * 84 + "...")

    def test_values_are_shown(self):
        self.assertEqual(self.value("\"" + "a" * 200 + "\""), "\"" + "a" * 99 + "...")
        self.assertEqual(self.value("null"), "null")
        self.assertEqual(self.value("\"text\""), "\"text\"")

    def test_calls_in_progress_are_not_counted(self):
        deep = "fun () { let f = null; f = fun (n) { if (n == 0) return 0; return 1 + f(n - 1); }; return f(%s); }()"
        # The expression is the only call at the beginning, however many calls the machine has.
        self.assertEqual(self.value(deep % 57), "57")
        self.assertEqual(self.failure(deep % 58), "RecursionError: too many calls")

    def test_faults(self):
        cases = [
            ("", 0, "expected an expression"), ("1 +", 3, "expected an expression"), ("1 2", 2, "expected the end"),
            ("let x = 1;", 0, "expected an expression"), ("1;", 1, "expected the end"), ("f(", 2, "expected an expression"),
            ("\"a", 0, "the text does not end"), ("#", 0, "this character is not allowed"),
            ("print = 1", 0, "print cannot be assigned"), ("1 = 2", 2, "this cannot be assigned to"),
            ("fun (a, a) { return b; }", 0, "a is declared twice"), ("fun () { break; }", 9, "break outside of a loop"),
            ("print(1, 2, 3, 4, 5, 6, 7, 8, 9)", 5, "more than 8 arguments"),
            ("fun () { class C { init() { return 1; } } }", 28, "init returns no value"),
            ("(" * 30 + "1" + ")" * 30, 30, "nested too deeply"), ("undeclared", 0, "undeclared is not declared"),
            ("nothing + \"", 10, "the text does not end"),
        ]
        for text, offset, message in cases:
            with self.subTest(text):
                self.assertEqual(self.fault(text), (offset, message))

    def test_return_in_an_expression(self):
        self.assertEqual(self.value("fun () { return 3; }()"), "3")

    def test_many_functions(self):
        text = "let f = [" + ", ".join(["fun () { }"] * 40) + "]; f;"
        program = Program(text)
        machine = program.after([], 43)
        frame = machine.frames[0]
        self.assertEqual(evaluate(program, machine, frame, "[fun () { return 1; }(), fun () { return 2; }()]"),
                         ("finished", "[1, 2]"))
        inner = ", ".join(["fun () { return 1; }()"] * 50)
        self.assertEqual(evaluate(program, machine, frame, f"[{inner}].sum()"), ("finished", "50"))
        self.assertEqual(evaluate(program, machine, frame, "f[39]()"), ("finished", "null"))
        small = Program("1;")
        machine = small.start([])
        self.assertEqual(evaluate(small, machine, machine.frames[0], f"[{inner}].sum()"), ("finished", "50"))
        with self.assertRaises(InvalidText) as caught:
            evaluate(small, machine, machine.frames[0], f"[{inner}, x]")
        self.assertEqual(caught.exception.message, "x is not declared")

    def test_faults_beside_many_functions(self):
        program = Program("1;")
        machine = program.start([])
        text = "[" + ", ".join(["fun () { }"] * 40) + ", fun (a, a) { }]"
        with self.assertRaises(InvalidText) as caught:
            evaluate(program, machine, machine.frames[0], text)
        self.assertEqual(caught.exception.message, "a is declared twice")


class StepsTest(unittest.TestCase):
    def answer(self, text, *lines):
        program = Program("print(1);")
        machine = program.after(list(lines), 3)
        return evaluate(program, machine, machine.frames[0], text)

    def test_the_bound(self):
        # Two lists of 996, `==`, `not`, and 4 steps for the end are 2000 steps; one more is too much.
        one = "[" + ", ".join(["1"] * 996) + "]"
        self.assertEqual(self.answer(f"not ({one} == {one})"), ("finished", "true"))
        self.assertEqual(self.answer(f"not not ({one} == {one})"), ("running", None))

    def test_waiting_at_the_bound(self):
        one = "[" + ", ".join(["1"] * 996) + "]"
        # 1995 steps for the lists and their comparison.
        head = f"({one} == {one})"
        self.assertEqual(self.answer(f"[{head}, 1, 2, 3, read()]"), ("waiting", None))
        # The call of `read` would be the step 2000, and the step 2001.
        self.assertEqual(self.answer(f"[{head}, 1, 2, 3, 4, read()]"), ("running", None))

    def test_lines_of_input(self):
        self.assertEqual(self.answer("read() + read()", "a", "b"), ("finished", "\"ab\""))
        self.assertEqual(self.answer("[read(), read()]", "a"), ("waiting", None))
        program = Program("print(read()); print(2);")
        machine = program.after(["a", "b"], 4)
        self.assertEqual(machine.store.taken, 1)
        self.assertEqual(evaluate(program, machine, machine.frames[0], "read()"), ("finished", "\"b\""))
        self.assertEqual(machine.store.taken, 1)

    def test_a_machine_that_waits(self):
        program = Program("let x = 1; read();")
        machine = program.after([], 100)
        self.assertEqual(machine.status(), "waiting")
        self.assertEqual(evaluate(program, machine, machine.frames[0], "x + 1"), ("finished", "2"))

    def test_each_name_comes_to_its_variable(self):
        for text in programs(64, 30):
            program = Program(text)
            machine = program.after(["7"], 150)
            for frame in machine.frames:
                before = state(machine)
                shown = dict(reversed(variables_of(program, machine, frame)))
                for name, value in shown.items():
                    self.assertEqual(evaluate(program, machine, frame, name), ("finished", value), text)
                    if name != "this":
                        self.assertEqual(evaluate(program, machine, frame, f"{name} = 3"), ("finished", "3"), text)
                self.assertEqual(state(machine), before)


if __name__ == "__main__":
    unittest.main()
