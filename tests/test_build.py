"""Built code: points [90] and [91]."""

import unittest

from livequill.asking.program import Program
from livequill.code.flaws import flaws_of
from livequill.code.translate import translate
from livequill.code.written import write_code
from livequill.machine.machine import Machine
from livequill.names.faults import read_program
from livequill.rewriting.build import build
from livequill.rewriting.simpler import simpler
from livequill.values.written import show
from programs import programs

LED_ON = ("jump", "unless", "both", "either", "next", "escape")
SAMPLES = [
    "", "print(1 + 2);", "if (print) { if (len) print(1); else print(2); } else print(3);",
    "let n = 0; while (n < 9) { n = n + 1; if (n == 3) continue; if (n == 5) { continue; } else { print(n); } }",
    "for (x in [1, 2, 3]) { if (x == 2) break; else { if (x == 1) print(x); } }",
    "fun f(n) { if (n == 0) return 0; else return f(n - 1); } print(f(5)); throw f;",
    "while (true) { if (1 > 2) { break; } print(read()); }",
    "let n = 0; while (n < 3) { n = n + 1; if (n == 1) { while (n) { break; } } else print(n); }",
    "for (a in [1, 2]) for (b in [a]) { try { if (a == b) throw a; else continue; } catch (e) { print(e); } }",
    "class A { m() { if (null) { fun gone() { } gone(); } return this; } } print(A().m() == null or 1 and 2);",
    "fun f() { throw \"a\" + \"b\"; fun g() { } } f();", "print(1 and 1 / 0);", "let a = []; while (a.length() < 3 and 1 or false) a.push(1); print(a);",
]


def rows_of(text):
    """The built code of a program, as its lines without indexes."""
    return [line.split(": ", 1)[-1].strip() for line in write_code(build(read_program(text))).split("\n")[:-1]]


def led_on(rows, index):
    """Where an index leads, told by following the jumps one by one."""
    for _ in rows:
        if rows[index][0] == "jump":
            index = rows[index][1]
    return index


class BuildTest(unittest.TestCase):
    def test_simpler_code(self):
        self.assertEqual(rows_of("print(1 + 2 * 3); 5; if (null) print(1);"),
                         ["function 0 0", "const print", "const 7", "call 1 5", "pop", "const null", "ret"])

    def test_jumps_to_jumps(self):
        text = "while (print) if (len) 1; else read();"
        self.assertEqual(rows_of(text), [
            "function 0 0", "const print", "unless 9", "const len", "unless 5", "jump 0", "const read", "call 0 35", "pop",
            "jump 0", "const null", "ret"])
        # The code that is not built goes to the end of the round first.
        (plain,) = translate(simpler(read_program(text)))
        self.assertEqual((plain.rows[4], plain.rows[8]), (("jump", 8), ("jump", 0)))

    def test_a_break_behind_which_is_a_jump(self):
        text = "if (print) { while (len) { break; } } else read();"
        (chunk,) = build(read_program(text))
        (plain,) = translate(simpler(read_program(text)))
        end = len(chunk.rows) - 2
        behind = plain.rows.index(("jump", end))
        self.assertIn(("escape", 0, 0, behind), plain.rows)
        self.assertIn(("escape", 0, 0, end), chunk.rows)

    def test_each_index_is_led_on(self):
        texts = [*SAMPLES, *programs(90, 60)]
        jumps = 0
        for text in texts:
            tree = read_program(text)
            before, after = translate(simpler(tree)), build(tree)
            self.assertEqual([(chunk.number, chunk.wanted) for chunk in before], [(chunk.number, chunk.wanted) for chunk in after])
            for old, new in zip(before, after):
                expected = [(*row[:-1], led_on(old.rows, row[-1])) if row[0] in LED_ON else row for row in old.rows]
                self.assertEqual(new.rows, expected)
                jumps += old.rows != new.rows
        self.assertGreater(jumps, 20)

    def test_enter_stays(self):
        text = "while (print) { try { read(); } catch (e) { } }"
        (chunk,) = build(read_program(text))
        (plain,) = translate(simpler(read_program(text)))
        self.assertEqual([row for row in chunk.rows if row[0] == "enter"], [row for row in plain.rows if row[0] == "enter"])

    def test_functions_that_are_left_out(self):
        chunks = build(read_program("if (null) { fun a() { } a(); } fun b() { } b(); throw 1; fun c() { }"))
        self.assertEqual([chunk.number for chunk in chunks], [0, 2])
        self.assertIn(("closure", 2, 0), chunks[0].rows)
        self.assertEqual(flaws_of(chunks), [])

    def test_offsets_stay(self):
        chunks = build(read_program("if (1) { print(1); } fun f(x) { if (1) return x.y; }"))
        self.assertIn(("call", 1, 14), chunks[0].rows)
        self.assertIn(("field", "y", 26), chunks[1].rows)

    def test_the_tree_stays(self):
        tree = read_program(SAMPLES[3])
        build(tree)
        self.assertEqual(tree, read_program(SAMPLES[3]))
        self.assertTrue(build(tree) == build(tree))


class RunsTest(unittest.TestCase):
    def check(self, text, lines):
        program = Program(text)
        chunks = build(program.tree)
        self.assertEqual(flaws_of(chunks), [], text)
        ours = program.after(lines, 20000)
        theirs = Machine(chunks, lines)
        theirs.run(ours.steps)
        # The built code takes no more steps, so it has ended by now, or waits.
        if ours.status() != "running":
            self.assertEqual((theirs.status(), theirs.store.output, theirs.store.taken),
                             (ours.status(), ours.store.output, ours.store.taken), text)
            self.assertEqual(show(theirs.store, theirs.thrown), show(ours.store, ours.thrown), text)
            self.assertLessEqual(theirs.steps, ours.steps)
        return ours.steps - theirs.steps

    def test_samples(self):
        for text in SAMPLES:
            for lines in ([], ["a"], ["a", "b", "c"]):
                self.check(text, lines)

    def test_chance_programs(self):
        saved = 0
        for text in programs(91, 150):
            for old, new in (("(t)", "(1 < 2)"), ("(l)", "(null)"), ("(d)", "(3 - 4)")):
                text = text.replace(old, new)
            saved += self.check(text, ["7", "line"]) > 0
        self.assertGreater(saved, 40)


if __name__ == "__main__":
    unittest.main()
