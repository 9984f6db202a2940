"""Objects, what refers to them, lost objects, sizes and ways: points [78] to [82]."""

import unittest

from livequill.asking.program import Program
from livequill.heap.objects import children_of, roots_of, size_of, sort_of
from livequill.heap.reach import counts_of, lost_objects, reached_from, way_to
from livequill.machine.frames import Frame
from livequill.values.refs import Builtin, Ref
from livequill.values.things import Bound, Closure, Cursor, Instance, Kin, Parts, Table, Variable
from machines import state
from programs import programs
from runs import told_failure
from stores import Shelf, told

SORTS = ["variable", "list", "map", "instance", "class", "function", "method", "iterator"]


class ObjectsTest(unittest.TestCase):
    def setUp(self):
        self.shelf = Shelf()
        self.store = self.shelf.store
        self.some = [self.store.make(Variable(None)) for _ in range(4)]
        self.a, self.b, self.c, self.d = self.some

    def check(self, thing, children, sort, size):
        number = self.store.make(thing).number
        expected = [child.number for child in children]
        self.assertEqual(children_of(self.store, number), expected)
        self.assertEqual((sort_of(self.store, number), size_of(self.store, number)), (sort, size))
        found = children_of(self.store, number)
        found.append(0)
        self.assertEqual(children_of(self.store, number), expected)

    def test_variables(self):
        self.check(Variable(None), [], "variable", 1)
        self.check(Variable(5), [], "variable", 1)
        self.check(Variable("abc"), [], "variable", 4)
        self.check(Variable(""), [], "variable", 1)
        self.check(Variable(Builtin("len")), [], "variable", 1)
        self.check(Variable(self.b), [self.b], "variable", 1)
        self.check(Variable(Ref(0)), [Ref(0)], "variable", 1)

    def test_lists(self):
        self.check(Parts([]), [], "list", 1)
        self.check(Parts([1, None, True, "ab", ""]), [], "list", 8)
        self.check(Parts([self.b, 1, self.a, "x", self.b]), [self.b, self.a, self.b], "list", 7)

    def test_iterators(self):
        self.check(Cursor([]), [], "iterator", 1)
        self.check(Cursor(["a", "bc"]), [], "iterator", 6)
        self.check(Cursor([self.c, self.a]), [self.c, self.a], "iterator", 3)

    def test_maps(self):
        self.check(Table(), [], "map", 1)
        table = Table()
        for key, value in (("key", self.c), (1, "text"), (None, self.a), (True, self.c)):
            table.put(key, value)
        self.check(table, [self.c, self.a, self.c], "map", 1 + 8 + 3 + 4)
        table.put("key", None)
        self.check(table, [self.a, self.c], "map", 16)

    def test_instances(self):
        self.check(Instance(self.d), [self.d], "instance", 1)
        instance = Instance(self.d)
        instance.named.update({"x": 5, "name": "text", "c": self.c, "b": self.b, "d": self.d})
        self.check(instance, [self.d, self.c, self.b, self.d], "instance", 1 + 5 + 1 + 4 + 1 + 1 + 1 + 4)

    def test_classes(self):
        self.check(Kin("A", None), [], "class", 2)
        self.check(Kin("", None), [], "class", 1)
        self.check(Kin("Name", self.b), [self.b], "class", 5)
        kin = Kin("Name", self.b)
        kin.methods.update({"long_name": self.d, "m": self.c})
        self.check(kin, [self.b, self.d, self.c], "class", 7)
        kin = Kin("N", None)
        kin.methods.update({"m": self.c})
        self.check(kin, [self.c], "class", 3)
        self.assertEqual((children_of(self.store, 0), sort_of(self.store, 0), size_of(self.store, 0)), ([], "class", 6))

    def test_functions_and_methods(self):
        self.check(Closure(3, 2, ()), [], "function", 1)
        self.check(Closure(3, 2, (self.c, self.a, self.c)), [self.c, self.a, self.c], "function", 1)
        self.check(Bound(self.b, self.a), [self.b, self.a], "method", 1)

    def test_counts(self):
        self.check(Parts(["abc"]), [], "list", 5)
        self.check(Parts([]), [], "list", 1)
        self.check(Bound(self.b, self.a), [self.b, self.a], "method", 1)
        found = counts_of(self.store)
        self.assertEqual([list(row) for row in found], [["sort", "count", "size"]] * 8)
        self.assertEqual([row["sort"] for row in found], SORTS)
        counts = {row["sort"]: (row["count"], row["size"]) for row in found}
        self.assertEqual(counts, {"variable": (4, 4), "list": (2, 6), "map": (0, 0), "instance": (0, 0), "class": (1, 6),
                                  "function": (0, 0), "method": (1, 1), "iterator": (0, 0)})

    def test_counts_of_programs(self):
        for text in programs(81, 25):
            store = Program(text).after(["7"], 500).store
            for row in counts_of(store):
                numbers = [number for number in range(len(store.things)) if sort_of(store, number) == row["sort"]]
                self.assertEqual((row["count"], row["size"]), (len(numbers), sum(size_of(store, n) for n in numbers)))


class RootsTest(unittest.TestCase):
    def machine(self):
        machine = Program("1;").start([])
        for _ in range(20):
            machine.store.make(Variable(None))
        return machine

    def test_a_new_machine(self):
        self.assertEqual(roots_of(Program("1;").start([])), [0])

    def test_frames(self):
        machine = self.machine()
        inner, outer = Frame(1, (Ref(5), Ref(3))), Frame(0, (Ref(3),))
        inner.stack = [1, Ref(9), "x", Ref(8), Ref(9)]
        inner.handlers = [(4, (Ref(7), Ref(3))), (2, (Ref(3),))]
        inner.made = Ref(12)
        outer.stack = [Ref(0), Builtin("len"), None]
        machine.frames = [inner, outer]
        self.assertEqual(roots_of(machine), [0, 5, 3, 9, 8, 9, 7, 3, 3, 12, 3, 0])
        found = roots_of(machine)
        found.clear()
        self.assertEqual(len(roots_of(machine)), 12)

    def test_ends(self):
        machine = Program("let a = [1]; throw a;").after([], 100)
        self.assertEqual((machine.state, roots_of(machine)), ("failed", [0, 1]))
        machine = Program("throw 5;").after([], 100)
        self.assertEqual(roots_of(machine), [0])
        machine = Program("let a = [1];").after([], 100)
        self.assertEqual((machine.state, roots_of(machine)), ("finished", [0]))

    def test_a_program(self):
        text = "class A { init(x) { try { this.x = [x, read()]; } catch (e) { } } } let a = [1]; print(A(a));"
        machine = Program(text).after([], 1000)
        inner, outer = machine.frames
        self.assertEqual((machine.status(), inner.made is not None, len(inner.handlers)), ("waiting", True, 1))
        expected = [0] + [ref.number for ref in inner.scope] + [inner.stack[0].number, inner.stack[1].number]
        expected += [ref.number for ref in inner.handlers[0][1]] + [inner.made.number] + [ref.number for ref in outer.scope]
        self.assertEqual(roots_of(machine), expected)


def reached_slowly(store, numbers):
    """The numbers of what is reached, by adding children until nothing is added."""
    reached = set(numbers)
    while True:
        more = {child for number in reached for child in children_of(store, number)} - reached
        if not more:
            return sorted(reached)
        reached |= more


class ReachTest(unittest.TestCase):
    def test_circles(self):
        shelf = Shelf()
        one, two = shelf.list(), shelf.list()
        shelf.store.at(one).held.append(two)
        shelf.store.at(two).held.extend([one, two])
        alone = shelf.list()
        self.assertEqual(reached_from(shelf.store, [one.number]), [1, 2])
        self.assertEqual(reached_from(shelf.store, [two.number]), [1, 2])
        self.assertEqual(reached_from(shelf.store, [alone.number]), [3])
        self.assertEqual(reached_from(shelf.store, []), [])
        self.assertEqual(reached_from(shelf.store, [3, 0, 3, 1]), [0, 1, 2, 3])
        numbers = [2, 2]
        reached_from(shelf.store, numbers)
        self.assertEqual(numbers, [2, 2])

    def test_a_long_chain(self):
        shelf = Shelf()
        last = shelf.list()
        for _ in range(20000):
            last = shelf.list(last)
        self.assertEqual(len(reached_from(shelf.store, [last.number])), 20001)

    def test_lost_objects(self):
        machine = Program("let a = [1]; a = [2]; a = null;").start([])
        found = []
        while machine.frames:
            machine.step()
            found.append(lost_objects(machine))
        # The list 1 is lost when the variable 2 holds another one, and this one, 3, when it holds null.
        self.assertEqual(found, [[], [], [], [], [], [1], [1], [1], [1, 3], [1, 3], [1, 2, 3], [1, 2, 3], [1, 2, 3]])

    def test_programs(self):
        for text in programs(80, 25):
            machine = Program(text).start(["7"])
            lost = set()
            for _ in range(25):
                machine.run(13)
                store = machine.store
                reached = reached_slowly(store, roots_of(machine))
                self.assertEqual(reached_from(store, roots_of(machine)), reached)
                found = lost_objects(machine)
                self.assertEqual(found, [number for number in range(len(store.things)) if number not in reached])
                # What is lost stays lost.
                self.assertLessEqual(lost, set(found))
                lost = set(found)

    def test_what_is_lost_is_neither_read_nor_changed(self):
        spoilt = object()
        for text in programs(8080, 40):
            machine = Program(text).start(["7", "x"])
            machine.run(120)
            other = machine.fork()
            lost = lost_objects(other)
            for number in lost:
                other.store.things[number] = spoilt
            for _ in range(10):
                machine.run(40)
                other.run(40)
                for number in lost:
                    self.assertIs(other.store.things[number], spoilt)
                self.assertEqual(other.store.output, machine.store.output)
                self.assertEqual((other.steps, other.status(), other.places, repr(other.thrown)),
                                 (machine.steps, machine.status(), machine.places, repr(machine.thrown)))
                theirs = [told(thing) for at, thing in enumerate(machine.store.things) if at not in lost]
                ours = [told(thing) for at, thing in enumerate(other.store.things) if at not in lost]
                self.assertEqual(ours, theirs)


def ways_slowly(machine):
    """A way to each object that has one, by looking at all ways of one length after the other."""
    found = {}
    ways = [[ref.number] for frame in machine.frames for ref in frame.scope]
    while ways:
        kept = []
        for way in ways:
            if way[-1] not in found:
                found[way[-1]] = way
                kept.append(way)
        ways = [way + [child] for way in kept for child in children_of(machine.store, way[-1])]
    return found


class WayTest(unittest.TestCase):
    def machine(self, text, *lines):
        return Program(text + " read();").after(list(lines), 10000)

    def test_ways(self):
        machine = self.machine("let a = [1, [2]]; let b = {1: a};")
        # The lists are 1 and 2, the variable a is 3, the map 4, the variable b 5.
        self.assertEqual([way_to(machine, number) for number in range(7)], [
            None, [3, 2, 1], [3, 2], [3], [5, 4], [5], None])
        self.assertIsNone(way_to(machine, 10 ** 9))
        self.assertIsNone(way_to(machine, -1))

    def test_the_first_of_several(self):
        machine = self.machine("let a = [[]]; let b = [a[0]]; let c = b;")
        names = {"a": 3, "c": 6}
        # c is the innermost variable, b the next one: both lead to the list of b, c first.
        self.assertEqual(way_to(machine, 4), [names["c"], 4])
        self.assertEqual(way_to(machine, 1), [names["c"], 4, 1])
        self.assertEqual(way_to(machine, 2), [names["a"], 2])

    def test_frames(self):
        machine = self.machine("let a = [1]; fun f(x) { let y = x; read(); } f(a);")
        inner = machine.frames[0]
        self.assertEqual(len(machine.frames), 2)
        self.assertEqual(way_to(machine, 1), [inner.scope[0].number, 1])

    def test_other_roots_begin_no_way(self):
        machine = Program("[1, [2], read()];").after([], 100)
        self.assertEqual((machine.status(), roots_of(machine)), ("waiting", [0, 1]))
        self.assertIsNone(way_to(machine, 1))
        self.assertIsNone(way_to(machine, 0))
        machine = Program("throw [1];").after([], 100)
        self.assertIsNone(way_to(machine, 1))
        machine = Program("try { let a = 1; fun () { read(); }(); } catch (e) { }").after([], 100)
        self.assertEqual(machine.frames[1].handlers[0][1], ())
        self.assertIsNotNone(way_to(machine, machine.frames[0].scope[0].number))

    def test_the_class_error(self):
        self.assertEqual(way_to(self.machine("let e = Error;"), 0), [1, 0])
        machine = self.machine("let e = Error(\"a\", \"b\");")
        self.assertEqual(way_to(machine, 0), [2, 1, 0])

    def test_programs(self):
        for text in programs(82, 25):
            machine = Program(text).start(["7"])
            for _ in range(6):
                machine.run(60)
                ways = ways_slowly(machine)
                for number in range(-1, len(machine.store.things) + 1):
                    self.assertEqual(way_to(machine, number), ways.get(number))

    def test_the_machine_stays(self):
        machine = Program("let a = [[1], {1: 2}]; a; throw a;").after([], 9)
        before = state(machine)
        for number in range(6):
            way_to(machine, number)
        lost_objects(machine)
        counts_of(machine.store)
        self.assertEqual(state(machine), before)


class NewInstanceTest(unittest.TestCase):
    def test_nothing_is_lost_while_it_is_made(self):
        machine = Program("class A { init() { print(1 / 0); } } try { A(); } catch (e) { print(e.kind); }").start([])
        while len(machine.frames) < 2:
            machine.step()
        made = machine.frames[0].made.number
        self.assertIn(made, roots_of(machine))
        while machine.frames[0].made is not None:
            self.assertNotIn(made, lost_objects(machine))
            machine.step()
        self.assertIn(made, lost_objects(machine))

    def test_a_thrown_value(self):
        machine = Program("fun f() { throw Error(\"a\", \"b\"); } f();").after([], 100)
        self.assertEqual(told_failure(machine.store, machine.thrown), ("a", "b"))
        self.assertNotIn(machine.thrown.number, lost_objects(machine))
        self.assertEqual(lost_objects(machine), [number for number in range(1, len(machine.store.things))
                                                 if number != machine.thrown.number])


if __name__ == "__main__":
    unittest.main()
