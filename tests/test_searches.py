"""Changes, visits, printed lines, profile, coverage and trace: points [65] to [68]."""

import unittest

from histories import SILENT, history
from livequill.asking.program import Program
from livequill.asking.searches import changes_of, coverage_of, printed_by, profile_of, trace_of, visits_of
from livequill.asking.variables import variable_of
from livequill.names.places import place_of
from livequill.values.refs import Ref
from programs import programs

TEXT = """let n = 1;
fun double(x) {
  n = n;
  return x * 2;
}
// nothing here
fun twice(f, x) { return f(f(x)); }
print(twice(double, 3));
n = 5; n = 5;
print(n,
  double(1));
"""
LOOP = "let n = 0;\nwhile (true) {\n  n = n + 1;\n}\n"
SAMPLES = [
    (TEXT, []), (LOOP, []), ("", []), ("let x = read();\nprint(x);\nprint(read());\n", ["a"]),
    ("fun f(n) {\n if (n == 0) throw n;\n f(n - 1);\n}\ntry { f(5); }\ncatch (e) { print(e); }\nf(2);\n", []),
    ("class A {\n init(x) { this.x = x; print(x); }\n m() { return this.x; }\n}\n"
     "class B extends A {\n m() { return [super.m()]; }\n}\nprint(B(3).m());\n", []),
    ("fun f(n) { return f(n + 1); }\ntry {\n f(1);\n} catch (e) { print(e.kind); }\n", []),
]
COUNTS = (0, 1, 2, 7, 30, 1000)


class Case(unittest.TestCase):
    def samples(self):
        """Programs with lines and numbers of steps, and the steps that a machine makes."""
        for text, lines in SAMPLES:
            program = Program(text)
            for count in COUNTS:
                yield program, lines, count, history(program, lines, count)
        for text in programs(65, 20):
            program = Program(text.replace("; ", ";\n").replace("{ ", "{\n"))
            yield program, ["7", "x"], 500, history(program, ["7", "x"], 500)


class ChangesTest(Case):
    def test_a_variable(self):
        program = Program("let a = 1; let b = 2; a = 5; a = 5; b = a; a = b;")
        ref = variable_of(program, program.after([], 2).frames[0], "a")
        # let a: 2 steps; let b: 2; a = 5: const, save, pop; b = a: load, save, pop.
        self.assertEqual(changes_of(program, [], 1000, ref), [2, 6, 9, 15])
        self.assertEqual(changes_of(program, [], 8, ref), [2, 6])
        self.assertEqual(changes_of(program, [], 6, ref), [2, 6])
        self.assertEqual(changes_of(program, [], 5, ref), [2])
        self.assertEqual(changes_of(program, [], 1, ref), [])
        self.assertEqual(changes_of(program, [], 0, ref), [])
        self.assertEqual(changes_of(program, [], 1000, Ref(2)), [4, 12])

    def test_the_same_name_means_other_variables(self):
        program = Program("fun f(x) { x = x + 1; return x; } f(1); f(2);")
        found = [changes_of(program, [], 1000, Ref(number)) for number in (3, 4)]
        self.assertEqual([len(changes) for changes in found], [2, 2])
        self.assertEqual(sorted(found[0] + found[1]), found[0] + found[1])

    def test_a_function_keeps_its_variable(self):
        program = Program("fun counter() { let n = 0; return fun () { n = n + 1; }; } let c = counter(); c(); c();")
        steps = history(program, [], 1000)
        made = [step for step in steps if step.row == ("declare",)][0]
        expected = [made.number] + [step.number for step in steps if step.set == made.made[0]]
        self.assertEqual(len(expected), 3)
        self.assertEqual(changes_of(program, [], 1000, Ref(made.made[0])), expected)

    def test_a_refused_call_makes_no_variable(self):
        program = Program("fun f(x) { } try { f(); } catch (e) { } f(1);")
        self.assertEqual(len(program.after([], 1000).store.things) - 1, 5)
        self.assertEqual(changes_of(program, [], 1000, Ref(9)), [])

    def test_single_steps(self):
        for program, lines, count, steps in self.samples():
            numbers = sorted({number for step in steps for number in step.made})
            for number in numbers[:40]:
                expected = [step.number for step in steps if number in step.made or step.set == number]
                self.assertEqual(changes_of(program, lines, count, Ref(number)), expected)
            self.assertEqual(changes_of(program, lines, count, Ref(10 ** 6)), [])


class VisitsTest(Case):
    def test_lines(self):
        program = Program("let a = 1 + 1;\nprint(a);\nlet b = 3;\nb;\n")
        self.assertEqual([visits_of(program, [], 100, line) for line in range(7)], [[], [3], [7], [], [], [], []])
        self.assertEqual(visits_of(program, [], 6, 2), [])
        self.assertEqual(visits_of(program, [], 7, 2), [7])

    def test_single_steps(self):
        for program, lines, count, steps in self.samples():
            for line in range(1, program.text.count("\n") + 3):
                expected = [step.number for step in steps if step.line == line]
                self.assertEqual(visits_of(program, lines, count, line), expected)


class PrintedTest(Case):
    def test_lines(self):
        program = Program("print(1); print(2); 5; print(3);")
        self.assertEqual([printed_by(program, [], 100, index) for index in range(4)], [3, 7, 13, None])
        self.assertEqual([printed_by(program, [], 7, index) for index in range(3)], [3, 7, None])
        self.assertEqual([printed_by(program, [], 6, index) for index in range(3)], [3, None, None])
        self.assertIsNone(printed_by(program, [], 0, 0))

    def test_lines_that_are_the_same(self):
        program = Program("for (x in [1, 1, 1]) print(0);")
        found = [printed_by(program, [], 100, index) for index in range(3)]
        self.assertEqual(len(set(found)), 3)
        self.assertEqual(found, sorted(found))

    def test_single_steps(self):
        for program, lines, count, steps in self.samples():
            printed = sum(len(step.prints) for step in steps)
            for index in range(printed + 2):
                expected = [step.number for step in steps if index in step.prints]
                self.assertEqual(printed_by(program, lines, count, index), expected[0] if expected else None)


class ProfileTest(Case):
    def test_a_profile(self):
        program = Program("fun f() { return 1; } fun g() { return f() + f(); } g(); fun h() { }")
        steps = history(program, [], 1000)
        inside = [len([step for step in steps if step.functions[0] == number]) for number in range(4)]
        self.assertEqual(profile_of(program, [], 1000), [
            (0, 1, inside[0], len(steps)), (1, 2, 4, 4), (2, 1, 6, 10), (3, 0, 0, 0)])

    def test_no_steps(self):
        program = Program("fun f() { } f();")
        self.assertEqual(profile_of(program, [], 0), [(0, 1, 0, 0), (1, 0, 0, 0)])

    def test_calls_that_call_themselves_count_once(self):
        program = Program("fun f(n) { if (n > 0) f(n - 1); } f(3);")
        steps = history(program, [], 1000)
        within = [step for step in steps if 1 in step.functions]
        self.assertEqual(profile_of(program, [], 1000)[1], (1, 4, len(within), len(within)))

    def test_single_steps(self):
        for program, lines, count, steps in self.samples():
            expected = []
            for number in range(len(program.functions)):
                entered = len([step for step in steps if step.entered == number]) + (number == 0)
                inside = len([step for step in steps if step.functions[0] == number])
                around = len([step for step in steps if number in step.functions])
                expected.append((number, entered, inside, around))
            self.assertEqual(profile_of(program, lines, count), expected)


class CoverageTest(Case):
    def test_a_coverage(self):
        program = Program("let a = 1 + 1;\nlet b = 2;\nif (a == 3) {\n  print(a);\n}\nfor (x in [1, 2]) {\n  x + x;\n}\n")
        self.assertEqual(coverage_of(program, [], 1000), [(1, 1), (3, 1), (4, 0), (6, 1), (7, 2)])
        self.assertEqual(coverage_of(program, [], 0), [(1, 0), (3, 0), (4, 0), (6, 0), (7, 0)])
        self.assertEqual(coverage_of(Program("let a = 1;\n"), [], 100), [])

    def test_single_steps(self):
        for program, lines, count, steps in self.samples():
            told = set()
            for chunk, function in zip(program.chunks, program.functions):
                told |= {place_of(program.text, function.offset + row[-1])[0] for row in chunk.rows if row[0] not in SILENT}
            expected = [(line, len([step for step in steps if step.line == line])) for line in sorted(told)]
            self.assertEqual(coverage_of(program, lines, count), expected)


class TraceTest(Case):
    def test_a_trace(self):
        program = Program("fun f(x) {\n  return -x;\n}\nprint(f(\"a\" + \"b\"));")
        self.assertEqual(trace_of(program, [], 1, 4), [
            ((0, 1, 1), ("blank",), None), ((0, 1, 1), ("closure", 1, 1), None), ((0, 1, 1), ("save", 0), "<function>"),
            ((0, 1, 1), ("pop",), "<function>")])
        self.assertEqual(trace_of(program, [], 8, 99), [
            ((0, 1, 1), ("const", "b"), "\"a\""), ((0, 4, 13), ("add", 38), "\"b\""),
            ((0, 4, 8), ("call", 1, 33), "\"ab\""), ((1, 1, 1), ("load", 0), None), ((1, 2, 10), ("negate", 20), "\"ab\"")])

    def test_steps_that_cannot_be_made(self):
        program = Program("print(1);")
        self.assertEqual(len(trace_of(program, [], 1, 100)), 6)
        self.assertEqual(len(trace_of(program, [], 6, 6)), 1)
        self.assertEqual(trace_of(program, [], 7, 100), [])
        self.assertEqual(trace_of(program, [], 50, 100), [])
        self.assertEqual(len(trace_of(Program("let a = 1; read();"), [], 1, 100)), 3)

    def test_single_steps(self):
        for program, lines, count, steps in self.samples():
            for first in (1, 5, count // 2, count):
                for last in (first, first + 3, count):
                    expected = [(step.place, step.row, step.top) for step in steps if first <= step.number <= last]
                    if first > 0 and last <= count:
                        self.assertEqual(trace_of(program, lines, first, last), expected)


class ArgumentsTest(Case):
    def test_they_are_not_changed(self):
        program = Program("print(read());")
        lines = ["a"]
        for call in (lambda: changes_of(program, lines, 9, Ref(1)), lambda: visits_of(program, lines, 9, 1),
                     lambda: printed_by(program, lines, 9, 0), lambda: profile_of(program, lines, 9),
                     lambda: coverage_of(program, lines, 9), lambda: trace_of(program, lines, 1, 9)):
            first = call()
            self.assertEqual(call(), first)
            if isinstance(first, list):
                first.clear()
        self.assertEqual(lines, ["a"])
        self.assertEqual(len(coverage_of(program, lines, 9)), 1)


if __name__ == "__main__":
    unittest.main()
