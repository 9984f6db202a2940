"""What each instruction does, once made and once failing, and calls at the bound: points [54] to [57]."""

import unittest

from livequill.asking.program import Program
from livequill.values.refs import Builtin, Ref
from machines import machine_of, state
from runs import told_failure
from stores import told

# Sound code, whose lines are parted by `/`, and the stack behind all steps but the last one, which is `ret`.
MADE = [
    ("const 5/ret", [5]), ("const null/ret", [None]), ("const true/ret", [True]), ("const \"a\"/ret", ["a"]),
    ("const print/ret", [Builtin("print")]), ("const error/ret", [Ref(0)]),
    ("const 5/declare/load 0/ret", [5]), ("blank/load 0/ret", [None]), ("blank/const 5/save 0/ret", [5]),
    ("blank/const 5/save 0/pop/load 0/ret", [5]),
    ("const 1/const 2/declare/declare/load 1/load 0/list 2/pop/load 0/ret", [1]),
    ("const 5/negate 0/ret", [-5]), ("const 5/not 0/ret", [False]), ("const null/not 0/ret", [True]),
    ("const 7/const 2/add 0/ret", [9]), ("const 7/const 2/sub 0/ret", [5]), ("const 7/const 2/mul 0/ret", [14]),
    ("const -7/const 2/div 0/ret", [-4]), ("const -7/const 2/mod 0/ret", [1]), ("const 7/const 2/eq 0/ret", [False]),
    ("const 7/const 2/ne 0/ret", [True]), ("const 7/const 2/lt 0/ret", [False]), ("const 7/const 2/le 0/ret", [False]),
    ("const 7/const 2/gt 0/ret", [True]), ("const 7/const 2/ge 0/ret", [True]), ("const 7/const error/is 0/ret", [False]),
    ("jump 2/ret/const 3/jump 1", [3]), ("const 1/unless 4/const 2/ret/const 3/ret", [2]),
    ("const false/unless 4/const 2/ret/const 3/ret", [3]), ("const 1/both 3/const 2/ret", [2]),
    ("const null/both 3/const 2/ret", [None]), ("const 1/either 3/const 2/ret", [1]),
    ("const null/either 3/const 2/ret", [2]), ("const 1/const 2/list 2/const 0/item 0/ret", [1]),
    ("const \"k\"/const 2/map 2 0/const \"k\"/item 0/ret", [2]),
    ("const 1/list 1/const 0/const 5/set_item 0/ret", [5]),
    ("const error/const \"a\"/const \"b\"/call 2 0/field \"message\" 0/ret", ["b"]),
    ("const error/const \"a\"/const \"b\"/call 2 0/const 3/set_field \"x\" 0/ret", [3]),
    ("const len/const \"abc\"/call 1 0/ret", [3]), ("const \"abc\"/invoke \"length\" 0 0/ret", [3]),
    ("closure 1 0/call 0 0/ret", [8]), ("list 0/iter 0/ret", [Ref(2)]), ("const \"a\"/iter 0/declare/next 5/ret/const 9/ret", ["a"]),
    ("const \"\"/iter 0/declare/next 5/ret/const 9/ret", [9]), ("enter 3/const 1/ret/ret", [1]),
    ("enter 4/leave/const 1/ret/ret", [1]), ("enter 3/const 4/raise 0/ret", [4]),
    ("blank/enter 3/escape 1 1 4/ret/const 2/ret", [2]), ("blank/drop 1/const 6/ret", [6]),
    ("const null/declare/class \"A\" 0/closure 1 0/method \"m\"/ret", [Ref(2)]),
    ("const error/declare/class \"A\" 0/ret", [Ref(2)]),
]
# Code that fails at its last instruction, which tells the offset 9 where it tells one, and the error.
FAILING = [
    ("const null/negate 9", "KindError", "cannot negate null"),
    ("const 1/const \"a\"/add 9", "KindError", "cannot add integer and text"),
    ("const 1/const null/sub 9", "KindError", "cannot subtract integer and null"),
    ("const true/const 1/mul 9", "KindError", "cannot multiply boolean and integer"),
    ("const 1/const 0/div 9", "ZeroDivisionError", "division by zero"),
    ("const 1/const 0/mod 9", "ZeroDivisionError", "division by zero"),
    ("const 1/const error/mod 9", "KindError", "cannot divide integer and class"),
    ("const 1/const \"a\"/lt 9", "KindError", "cannot compare integer and text"),
    ("const 1/const null/le 9", "KindError", "cannot compare integer and null"),
    ("const print/const 1/gt 9", "KindError", "cannot compare function and integer"),
    ("const null/const null/ge 9", "KindError", "cannot compare null and null"),
    ("const 1/const 1/is 9", "KindError", "is needs a class"),
    ("list 0/const 1/map 2 9", "KindError", "keys are null, booleans, integers and texts"),
    ("const null/const 1/item 9", "KindError", "cannot index null"),
    ("list 0/const 0/item 9", "IndexError", "index out of range"),
    ("const \"a\"/const 0/const 1/set_item 9", "KindError", "cannot index text"),
    ("const 1/field \"x\" 9", "FieldError", "integer has no field x"),
    ("const error/const 1/set_field \"x\" 9", "FieldError", "class has no field x"),
    ("const 1/call 0 9", "KindError", "cannot call integer"),
    ("const len/call 0 9", "ArityError", "expected 1 arguments, got 0"),
    ("closure 1 0/const 1/call 1 9", "ArityError", "expected 0 arguments, got 1"),
    ("const 1/invoke \"m\" 0 9", "FieldError", "integer has no field m"),
    ("list 0/invoke \"pop\" 0 9", "IndexError", "index out of range"),
    ("const 1/const error/super \"m\" 0 9", "KindError", "wrong argument"),
    ("const 1/declare/class \"A\" 9", "KindError", "the parent is not a class"),
    ("const 1/iter 9", "KindError", "cannot go through integer"),
]


class InstructionsTest(unittest.TestCase):
    def code(self, rows):
        return f"function 0 0/{rows}/function 1 0/const 8/ret"

    def test_made(self):
        for rows, stack in MADE:
            with self.subTest(rows):
                machine = machine_of(self.code(rows))
                before = None
                while machine.frames:
                    before = list(machine.frames[-1].stack)
                    self.assertTrue(machine.step())
                self.assertEqual((machine.state, before), ("finished", stack))

    def test_failing(self):
        for rows, kind, message in FAILING:
            with self.subTest(rows):
                code = self.code(rows + "/ret")
                machine = machine_of(code)
                machine.run(1000)
                self.assertEqual(machine.state, "failed")
                self.assertEqual(told_failure(machine.store, machine.thrown), (kind, message))
                self.assertEqual((machine.places, machine.frames), ([(0, 9)], []))
                self.assertEqual(machine.steps, rows.count("/") + 1)

    def test_failing_with_a_handler(self):
        for rows, kind, message in FAILING:
            with self.subTest(rows):
                many = rows.count("/") + 1
                machine = machine_of(self.code(f"const 77/enter {many + 3}/{rows}/ret/ret"))
                machine.run(many + 2)
                frame = machine.frames[0]
                self.assertEqual((frame.at, frame.handlers, len(frame.stack)), (many + 3, [], 1))
                self.assertEqual(told_failure(machine.store, frame.stack[0]), (kind, message))
                self.assertEqual((machine.state, frame.scope), ("running", ()))

    def test_too_large(self):
        for code in ("const 1/" * 1001 + "list 1001/ret", "".join(f"const {n}/const 1/" for n in range(1001)) + "map 2002 0/ret"):
            machine = machine_of(self.code(code))
            machine.run(10000)
            self.assertEqual(told_failure(machine.store, machine.thrown), ("SizeError", "too large"))

    def test_the_new_objects(self):
        machine = machine_of("function 0 0/blank/const 5/declare/closure 1 2/ret/function 1 2/const 1/ret")
        machine.run(4)
        self.assertEqual([told(thing)[0] for thing in machine.store.things], ["Kin", "Variable", "Variable", "Closure"])
        self.assertEqual((machine.store.at(Ref(1)).value, machine.store.at(Ref(2)).value), (None, 5))
        closure = machine.store.at(Ref(3))
        self.assertEqual((closure.number, closure.wanted, closure.scope), (1, 2, (Ref(2), Ref(1))))

    def test_calls_make_variables_in_order(self):
        machine = machine_of("function 0 0/blank/closure 1 2/const 7/const 8/call 2 0/ret/function 1 2/load 1/ret")
        machine.run(5)
        inner, outer = machine.frames
        self.assertEqual((inner.number, inner.at, inner.stack, inner.handlers, inner.made), (1, 0, [], [], None))
        self.assertEqual((inner.scope, outer.at, outer.stack), ((Ref(3), Ref(4), Ref(1)), 5, []))
        self.assertEqual([machine.store.at(Ref(number)).value for number in (3, 4)], [7, 8])
        machine.run(2)
        self.assertEqual((machine.frames, outer.stack), ([outer], [8]))

    def test_before_each_step(self):
        machine = Program("let a = [1]; try { a[1]; } catch (e) { a; }").start([])
        found = []
        while machine.frames:
            (frame,) = machine.frames
            row = machine.chunk_of(0).rows[frame.at]
            found.append((frame.at, row[0], list(frame.stack), frame.scope, list(frame.handlers), machine.steps))
            machine.step()
        a, e = (Ref(2),), (Ref(4), Ref(2))
        handlers = [(10, a)]
        self.assertEqual(found, [
            (0, "const", [], (), [], 0), (1, "list", [1], (), [], 1), (2, "declare", [Ref(1)], (), [], 2),
            (3, "enter", [], a, [], 3), (4, "load", [], a, handlers, 4), (5, "const", [Ref(1)], a, handlers, 5),
            (6, "item", [Ref(1), 1], a, handlers, 6), (10, "declare", [Ref(3)], a, [], 7), (11, "load", [], e, [], 8),
            (12, "pop", [Ref(1)], e, [], 9), (13, "drop", [], e, [], 10), (14, "drop", [], a, [], 11),
            (15, "const", [], (), [], 12), (16, "ret", [None], (), [], 13)])


DEEP = """
class A { init() { this.n = 1; } m() { return 2; } }
class B extends A { init() { super.init(); } m() { return super.m(); } }
class C extends Error { }
class D { }
let a = A(); a.f = fun () { return 3; }; let b = B(); a.g = len;
fun down(n, act) { if (n > 0) return down(n - 1, act); return act(); }
"""
# What is called within `act`, which is itself the call with the number 2 + n.
ACTS = ["A()", "a.m()", "a.f()", "down(0, fun () { })", "a.m", "C(\"k\", \"m\")", "D()", "a.g(\"x\")", "print(1)", "[].length()"]
BEGINS_A_CALL = ("A()", "a.m()", "a.f()", "down(0, fun () { })")


class BoundTest(unittest.TestCase):
    def run_to_the_end(self, text):
        program = Program(text)
        machine = program.start([])
        deepest = 0
        while machine.step():
            deepest = max(deepest, len(machine.frames))
        return machine, deepest

    def test_at_the_bound(self):
        for act in ACTS:
            for calls in (59, 60):
                with self.subTest((act, calls)):
                    # The program, down(calls - 3) .. down(0), and the act are as many calls in progress.
                    machine, deepest = self.run_to_the_end(f"{DEEP} down({calls - 3}, fun () {{ {act}; }});")
                    refused = calls == 60 and act in BEGINS_A_CALL
                    # A function that calls another one is refused a call later.
                    refused = refused or (calls == 59 and act.startswith("down"))
                    self.assertEqual(machine.state, "failed" if refused else "finished")
                    if refused:
                        self.assertEqual(told_failure(machine.store, machine.thrown), ("RecursionError", "too many calls"))
                        self.assertEqual((deepest, len(machine.places)), (60, 60))

    def test_super_at_the_bound(self):
        for calls, refused in ((58, False), (59, True), (60, True)):
            for act in ("B()", "b.m()"):
                machine, _ = self.run_to_the_end(f"{DEEP} down({calls - 3}, fun () {{ {act}; }});")
                self.assertEqual(machine.state, "finished" if calls == 58 else "failed", (calls, act))
                self.assertEqual(machine.state == "failed", refused)

    def test_a_refused_call_that_is_caught(self):
        text = f"{DEEP} down(57, fun () {{ try {{ A(); }} catch (e) {{ print(e.kind, e.message); }} }}); print(A().n);"
        machine, deepest = self.run_to_the_end(text)
        self.assertEqual((machine.state, machine.store.output, deepest), ("finished", ["RecursionError too many calls", "1"], 60))

    def test_what_a_refused_call_leaves(self):
        for act, kept in (("A()", "RecursionError"), ("A(1)", "ArityError"), ("a.m(1)", "ArityError"), ("D(1)", "ArityError"),
                          ("C(1, 2)", "KindError"), ("a.x()", "FieldError"), ("down()", "ArityError")):
            machine = Program(f"{DEEP} down(57, fun () {{ {act}; }});").start([])
            while machine.status() == "running":
                before = len(machine.store.things)
                machine.step()
            # The error is the only object that the last step made.
            self.assertEqual((machine.state, len(machine.store.things) - before), ("failed", 1), act)
            self.assertEqual(told_failure(machine.store, machine.thrown)[0], kept)
            self.assertEqual(machine.thrown, Ref(before))

    def test_a_new_instance(self):
        machine = Program("class A { init(x) { x; } } A(5);").start([])
        while len(machine.frames) < 2:
            many = len(machine.store.things)
            machine.step()
        # The instance comes first, then the variables of `this` and of x.
        self.assertEqual([told(thing)[0] for thing in machine.store.things[many:]], ["Instance", "Variable", "Variable"])
        self.assertEqual(machine.frames[0].made, Ref(many))
        self.assertEqual(machine.frames[0].scope[:2], (Ref(many + 1), Ref(many + 2)))


class StackTest(unittest.TestCase):
    def test_what_lies_below_the_operands_stays(self):
        text = ("class A { m(x, y) { return [x, y]; } } class B extends A { m() { return [0, super.m(1, [2]), 3]; } } "
                "let b = B(); print(5, b.m(), len(\"ab\"), -1, not 1, [7][0], {8: b.x = 9}, b.x);")
        machine = Program(text).after([], 1000)
        self.assertEqual(machine.store.output, ["5 [0, [1, [2]], 3] 2 -1 false 7 {8: 9} 9"])


class WaitingTest(unittest.TestCase):
    def test_a_line_that_is_given_later(self):
        for text in ("print(read());", "let r = read; print(r());", "class A { } let a = A(); a.r = read; print(a.r());",
                     "fun f() { return read(); } print(f());"):
            machine = Program(text).start([])
            machine.run(1000)
            before = state(machine)
            self.assertEqual((machine.status(), machine.step(), machine.run(3)), ("waiting", False, 0))
            self.assertEqual(state(machine), before)
            machine.store.lines.append("late")
            self.assertEqual(machine.status(), "running")
            machine.run(1000)
            self.assertEqual((machine.status(), machine.store.output), ("finished", ["late"]))
            self.assertEqual(state(machine), state(Program(text).after(["late"], 10000)))

    def test_errors_count_ahead_of_waiting(self):
        for text, kind in (("read(1);", "ArityError"), ("class A { } let a = A(); a.read();", "FieldError")):
            machine = Program(text).after([], 1000)
            self.assertEqual(told_failure(machine.store, machine.thrown)[0], kind)

    def test_run_in_parts_and_at_once(self):
        text = DEEP + "for (x in [1, 2, 3]) { print(x, A().m(), b.m()); } read(); throw C(\"k\", \"m\");"
        for lines in ([], ["a"]):
            whole = Program(text).start(lines)
            made = whole.run(100000)
            parts = Program(text).start(lines)
            sizes = [0, 1, 7, 3] * 100
            self.assertEqual(sum(parts.run(size) for size in sizes), made)
            self.assertEqual(state(parts), state(whole))


if __name__ == "__main__":
    unittest.main()
