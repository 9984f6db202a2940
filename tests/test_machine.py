"""The machine and program objects: points [54], [55], [57] and [59]."""

import unittest

from livequill.asking.program import Program
from livequill.code.reading import read_code
from livequill.code.translate import translate
from livequill.errors import InvalidText
from livequill.machine.machine import Machine
from livequill.values.refs import Ref
from machines import machine_of, state
from runs import told_failure


def failure_of(code):
    machine = machine_of(code)
    machine.run(1000)
    assert machine.state == "failed", machine.state
    return told_failure(machine.store, machine.thrown), machine.places


class StepsTest(unittest.TestCase):
    def test_the_beginning(self):
        lines = ["a"]
        machine = Program("print(1);").start(lines)
        lines.clear()
        self.assertEqual((machine.steps, machine.state, machine.thrown, machine.places), (0, "running", None, []))
        (frame,) = machine.frames
        self.assertEqual((frame.number, frame.at, frame.scope, frame.stack, frame.handlers, frame.made),
                         (0, 0, (), [], [], None))
        self.assertEqual((machine.store.lines, machine.status()), (["a"], "running"))

    def test_steps(self):
        machine = machine_of("function 0 0/const 5/declare/load 0/ret")
        found = []
        while machine.step():
            found.append([(frame.at, list(frame.stack), frame.scope) for frame in machine.frames])
        self.assertEqual(found, [[(1, [5], ())], [(2, [], (Ref(1),))], [(3, [5], (Ref(1),))], []])
        self.assertEqual((machine.steps, machine.state, machine.status()), (4, "finished", "finished"))
        self.assertIs(machine.step(), False)
        self.assertEqual((machine.run(10), machine.steps), (0, 4))

    def test_values_that_are_taken_away(self):
        machine = machine_of("function 0 0/const 1/const 2/pop/const 3/list 2/pop/const 4/ret")
        found = []
        while machine.step() and machine.frames:
            found.append(list(machine.frames[0].stack))
        self.assertEqual(found, [[1], [1, 2], [1], [1, 3], [Ref(1)], [], [4]])

    def test_run(self):
        machine = Program("let n = 0; while (true) n = n + 1;").start([])
        self.assertEqual((machine.run(0), machine.run(7), machine.steps), (0, 7, 7))
        self.assertIs(machine.step(), True)
        machine = Program("print(1);").start([])
        self.assertEqual((machine.run(100), machine.state), (6, "finished"))

    def after_two_steps(self, code):
        machine = machine_of(code)
        machine.run(2)
        return machine.frames[0].at, machine.frames[0].stack

    def test_jumps(self):
        for word, value, is_true in (("null", None, False), ("false", False, False), ("0", 0, True), ("true", True, True)):
            found = self.after_two_steps(f"function 0 0/const {word}/unless 4/const 1/ret/const 2/ret")
            self.assertEqual(found, (2, []) if is_true else (4, []))
            found = self.after_two_steps(f"function 0 0/const {word}/both 4/const 1/ret/ret")
            self.assertEqual(found, (2, []) if is_true else (4, [value]))
            found = self.after_two_steps(f"function 0 0/const {word}/either 4/const 1/ret/ret")
            self.assertEqual(found, (4, [value]) if is_true else (2, []))
        self.assertEqual(self.after_two_steps("function 0 0/jump 2/ret/const 1/jump 1"), (3, [1]))

    def test_waiting(self):
        machine = Program("print(read()); let r = read; r();").start(["a"])
        machine.run(100)
        before = state(machine)
        self.assertEqual((machine.state, machine.status(), machine.store.output), ("running", "waiting", ["a"]))
        self.assertEqual((machine.step(), machine.run(5)), (False, 0))
        self.assertEqual(state(machine), before)

    def test_waiting_for_a_field(self):
        machine = Program("class A { } let a = A(); a.f = read; a.f();").start([])
        machine.run(100)
        self.assertEqual(machine.status(), "waiting")
        machine = Program("class A { } let a = A(); a.f = read; try { a.f(1); } catch (e) { print(e.kind); }").start([])
        machine.run(100)
        self.assertEqual((machine.status(), machine.store.output), ("finished", ["ArityError"]))

    def test_calls_of_other_things_do_not_wait(self):
        machine = Program("print(len([])); \"a\".length(); [].copy(); print();").start([])
        machine.run(100)
        self.assertEqual((machine.status(), machine.store.output), ("finished", ["0", ""]))

    def test_fork(self):
        text = ("class A { init(x) { this.x = [x]; throw x; } } fun f(n) { if (n == 0) return read(); return f(n - 1); }"
                "for (y in [1, 2]) { try { A(y); } catch (e) { print(e, f(3)); } } 1 / 0;")
        machine = Program(text).start(["p", "q"])
        while True:
            other = machine.fork()
            self.assertEqual(state(other), state(machine))
            before = state(machine)
            other.run(7)
            self.assertEqual(state(machine), before)
            if not machine.step():
                break
            third = Program(text).after(["p", "q"], machine.steps)
            self.assertEqual(state(third), state(machine))
        self.assertEqual(machine.state, "failed")

    def test_chunk_of(self):
        machine = machine_of("function 0 0/closure 1 0/call 0 0/ret/function 1 0/const 1/ret")
        self.assertEqual([machine.chunk_of(number).number for number in (0, 1)], [0, 1])
        chunks = read_code("function 0 0\nconst 1\nret\nfunction 0 0\nconst 2\nret\n")
        machine = Machine(chunks, [])
        self.assertIs(machine.chunk_of(0), chunks[0])


class ThrowsTest(unittest.TestCase):
    def test_handlers(self):
        machine = machine_of("function 0 0/blank/enter 6/const 1/const 2/blank/raise 7/ret")
        machine.run(5)
        self.assertEqual(machine.frames[0].handlers, [(6, (Ref(1),))])
        machine.step()
        frame = machine.frames[0]
        self.assertEqual((frame.at, frame.stack, frame.scope, frame.handlers), (6, [2], (Ref(1),), []))

    def test_the_innermost_handler(self):
        machine = machine_of("function 0 0/enter 5/enter 4/const 1/raise 0/raise 9/ret")
        machine.run(5)
        self.assertEqual((machine.frames[0].at, machine.frames[0].stack, machine.frames[0].handlers), (5, [1], []))

    def test_frames_end(self):
        machine = Program("fun f(n) { if (n == 0) 1 / 0; f(n - 1); } try { f(3); } catch (e) { print(e.kind); }").start([])
        deepest = 0
        while machine.step():
            deepest = max(deepest, len(machine.frames))
        self.assertEqual((deepest, machine.store.output), (5, ["ZeroDivisionError"]))

    def test_places(self):
        # The instruction that threw tells no offset; the calls do.
        code = ("function 0 0/closure 1 0/call 0 5/ret/function 1 0/closure 2 0/call 0 6/ret/"
                "function 2 0/" + "const 1/" * 1001 + "list 1001/ret")
        machine = machine_of(code)
        machine.run(5000)
        self.assertEqual((told_failure(machine.store, machine.thrown), machine.places),
                         (("SizeError", "too large"), [(2, 0), (1, 6), (0, 5)]))
        self.assertEqual((machine.frames, machine.state, machine.status()), ([], "failed", "failed"))


class OtherCodeTest(unittest.TestCase):
    """Sound code that is not that of a program."""

    WRONG = ("KindError", "wrong argument")

    def test_method(self):
        for below, top in (("const 1", "closure 1 0"), ("const error", "const 1"), ("const error", "const print"),
                           ("const null", "const null"), ("closure 1 0", "closure 1 0"), ("const error", "load 0")):
            code = f"function 0 0/blank/{below}/{top}/method \"m\"/ret/function 1 0/const 1/ret"
            self.assertEqual(failure_of(code), (self.WRONG, [(0, 0)]))
        machine = machine_of("function 0 0/const error/closure 1 0/method \"m\"/ret/function 1 0/const 1/ret")
        machine.run(10)
        self.assertEqual((machine.state, machine.store.at(Ref(0)).methods), ("finished", {"m": Ref(1)}))

    def test_a_method_replaces_an_earlier_one(self):
        machine = machine_of("function 0 0/const error/closure 1 0/method \"m\"/closure 1 0/method \"m\"/ret/"
                             "function 1 0/const 1/ret")
        machine.run(10)
        self.assertEqual(machine.store.at(Ref(0)).methods, {"m": Ref(2)})

    def test_super(self):
        make = "const error/const \"a\"/const \"b\"/call 2 0"
        for this, parent in (("const 1", "const error"), ("const null", "const null"), (make, "const 1"),
                             (make, "const print"), (make, make)):
            self.assertEqual(failure_of(f"function 0 0/{this}/{parent}/super \"m\" 0 7/ret"), (self.WRONG, [(0, 7)]))
        self.assertEqual(failure_of(f"function 0 0/{make}/const null/super \"m\" 0 7/ret")[0],
                         ("KindError", "there is no parent class"))

    def test_next(self):
        for value in ("null", "5", "error"):
            self.assertEqual(failure_of(f"function 0 0/const {value}/declare/next 4/ret/const 1/ret"), (self.WRONG, [(0, 0)]))
        self.assertEqual(failure_of("function 0 0/list 0/declare/next 4/ret/const 1/ret"), (self.WRONG, [(0, 0)]))
        machine = machine_of("function 0 0/list 0/iter 0/declare/next 5/ret/const 1/ret")
        machine.run(10)
        self.assertEqual(machine.state, "finished")

    def test_an_iterator_as_a_value(self):
        code = ("function 0 0/const print/const kind/list 0/iter 0/call 1 0/list 0/iter 0/call 2 0/pop/"
                "list 0/iter 0/call 0 3/ret")
        machine = machine_of(code)
        machine.run(50)
        self.assertEqual(machine.store.output, ["function <function>"])
        self.assertEqual(told_failure(machine.store, machine.thrown), ("KindError", "cannot call function"))

    def test_arguments_are_counted_without_the_instance(self):
        code = ("function 0 0/const null/declare/class \"A\" 0/closure 1 0/method \"m\"/call 0 0/invoke \"m\" 0 9/ret/"
                "function 1 0/const 1/ret")
        self.assertEqual(failure_of(code), (("ArityError", "expected -1 arguments, got 0"), [(0, 9)]))


class ProgramTest(unittest.TestCase):
    TEXT = "fun f(x) { return x; }\nlet g = fun () { };\nprint(f(1));"

    def test_fields(self):
        program = Program(self.TEXT)
        self.assertEqual(program.text, self.TEXT)
        self.assertEqual(program.tree[0], "block")
        self.assertEqual([function.title for function in program.functions], ["", "f", "g"])
        self.assertTrue(program.chunks == translate(program.tree))
        self.assertEqual([program.function_of(number).number for number in range(3)], [0, 1, 2])

    def test_faults(self):
        for text, offset, message in (("let", 3, "expected a name"), ("print(x);", 6, "x is not declared")):
            with self.assertRaises(InvalidText) as caught:
                Program(text)
            self.assertEqual((caught.exception.offset, caught.exception.message), (offset, message))

    def test_after(self):
        program = Program("print(read()); print(2);")
        for count in (0, 1, 3, 5, 100):
            machine = program.start(["a"])
            machine.run(count)
            self.assertEqual(state(program.after(["a"], count)), state(machine))
        self.assertEqual((program.after([], 100).steps, program.after([], 100).status()), (2, "waiting"))


if __name__ == "__main__":
    unittest.main()
