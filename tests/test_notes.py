"""Notes on programs: points [83] to [88]."""

import unittest

from helpers import refusal
from histories import history
from livequill.asking.program import Program
from livequill.code.translate import translate
from livequill.machine.machine import Machine
from livequill.names.faults import read_program
from livequill.names.places import place_of
from livequill.rewriting.notes import notes_of
from livequill.text.trees import with_parts
from programs import programs

READ, USED, HIDES, LANGUAGE = "{} is never read", "{} is never used", "{} hides a variable", "{} hides a name of the language"
ALWAYS, NEVER, FOLLOWS = ("the condition is always true", "the condition is never true", "what follows is never executed")


def noted(text):
    return notes_of(read_program(text))


class NotesCase(unittest.TestCase):
    def check(self, text, *messages):
        """Checks the notes of a text: a mark `@` stands where each of them is, in their order."""
        plain, offsets = "", []
        for piece in text.split("@"):
            plain += piece
            offsets.append(len(plain))
        with self.subTest(plain):
            self.assertEqual(noted(plain), list(zip(offsets[:-1], messages)))
            self.assertEqual(len(offsets) - 1, len(messages))


class VariablesTest(NotesCase):
    def test_let(self):
        self.check("let @x = 1;", READ.format("x"))
        self.check("let x = 1; x;")
        self.check("let x = 1; print(x);")
        self.check("let @x = 1; x = 2;", READ.format("x"))
        self.check("let @x = 1; let y = x = 2; print(y);", READ.format("x"))
        self.check("let x = 1; x = x;")
        self.check("let x = []; x[0] = 1;")
        self.check("let x = 1; fun () { return fun () { return x; }; };")

    def test_for_and_catch(self):
        self.check("for (@x in []) { }", READ.format("x"))
        self.check("for (x in []) print(x);")
        self.check("for (@x in []) x = 1;", READ.format("x"))
        self.check("try { } catch (@e) { }", READ.format("e"))
        self.check("try { } catch (e) { throw e; }")

    def test_parameters(self):
        self.check("print(@fun (x) { });", USED.format("x"))
        self.check("print(fun (x) { return x; });")
        self.check("print(fun (x, y) { return fun () { return [x, y]; }; });")
        text = "print(fun (x, y, z) { return y; });"
        self.assertEqual(noted(text), [(6, USED.format("x")), (6, USED.format("z"))])
        text = "print(fun (z, y, x) { return y; });"
        self.assertEqual(noted(text), [(6, USED.format("z")), (6, USED.format("x"))])

    def test_members(self):
        self.check("fun @f() { }", USED.format("f"))
        self.check("fun f() { return f; }")
        self.check("fun f() { } f();")
        self.check("fun @f() { } fun g() { return g; }", USED.format("f"))
        self.check("fun f() { } fun @g() { return f(); }", USED.format("g"))
        self.check("class @A { }", USED.format("A"))
        self.check("class A { } class B extends A { } print(B);")
        self.check("class A { } class @B extends A { }", USED.format("B"))
        self.check("class @A { } fun f() { f = 1; A = f; }", USED.format("A"))

    def test_methods(self):
        self.check("class A { m() { } } A();")
        self.check("class A { @m(x) { } } A();", USED.format("x"))
        self.check("class A { @m(x) { return this; } n(x) { super.m(x); } } A();", USED.format("x"))

    def test_this_and_super(self):
        self.check("class A { m() { return 1; } n() { return super.m(); } o() { return fun () { return this; }; } } A();")

    def test_names_mean_the_innermost_variable(self):
        text = "let x = 1; { let x = 2; print(x); }"
        self.assertEqual(noted(text), [(4, READ.format("x")), (17, HIDES.format("x"))])
        text = "let x = 1; { let x = x; print(x); }"
        self.assertEqual(noted(text), [(17, HIDES.format("x"))])
        text = "let x = 1; { print(x); let x = 2; }"
        self.assertEqual(noted(text), [(27, READ.format("x")), (27, HIDES.format("x"))])
        text = "let x = 1; for (x in [x]) { }"
        self.assertEqual(noted(text), [(16, READ.format("x")), (16, HIDES.format("x"))])
        text = "let x = 1; let x = x + 1; print(x);"
        self.assertEqual(noted(text), [(15, HIDES.format("x"))])
        text = "let x = 1; try { print(x); } catch (x) { print(x); }"
        self.assertEqual(noted(text), [(36, HIDES.format("x"))])

    def test_members_are_in_scope_of_the_group(self):
        # The let stands outside of the group, whose function is hidden from nothing.
        text = "fun f() { return g(); } let g = 1; print(f, g);"
        with self.assertRaises(ValueError):
            read_program(text)
        self.check("let @g = 1; fun f() { return g(); } fun @g() { } f();", READ.format("g"), HIDES.format("g"))
        self.check("fun f() { return g(); } fun g() { return f(); }")

    def test_parents(self):
        self.check("let A = Error; class B extends A { } print(B);")
        text = "class A { } { class A extends A { } print(A); }"
        self.assertEqual(noted(text), [(6, USED.format("A")), (20, HIDES.format("A"))])


class HidingTest(NotesCase):
    def test_variables(self):
        self.check("let x = 1; { let @x = 2; print(x); } print(x);", HIDES.format("x"))
        self.check("let x = 1; for (@x in [x]) print(x);", HIDES.format("x"))
        self.check("let x = 1; try { } catch (@x) { print(x); } print(x);", HIDES.format("x"))
        self.check("let x = 1; print(x, @fun (x) { return x; });", HIDES.format("x"))
        self.check("let x = 1; print(x); { fun @x() { } x(); }", HIDES.format("x"))
        self.check("{ let x = 1; print(x); } { let x = 2; print(x); }")
        self.check("let x = 1; print(x); fun @x() { } x();", HIDES.format("x"))
        self.check("fun f() { let @f = 1; return f; } f();", HIDES.format("f"))
        self.check("@fun f(f) { return f; } f();", HIDES.format("f"))
        self.check("for (x in []) { print(x); for (@x in []) print(x); }", HIDES.format("x"))

    def test_methods_hide_nothing(self):
        self.check("let m = 1; class A { m() { return m; } } A();")
        self.check("class A { @m(A) { return A; } } A();", HIDES.format("A"))
        self.check("class A { m() { class B { n() { return this; } } return B; } } A();")

    def test_names_of_the_language(self):
        for name in ("print", "Error", "len", "equals", "char"):
            self.check(f"let @{name} = 1; {name};", LANGUAGE.format(name))
        self.check("for (@len in []) len;", LANGUAGE.format("len"))
        self.check("try { } catch (@len) { len; }", LANGUAGE.format("len"))
        self.check("print(@fun (len) { return len; });", LANGUAGE.format("len"))
        self.check("fun @len() { } len();", LANGUAGE.format("len"))
        self.check("class @Error { } Error();", LANGUAGE.format("Error"))
        # Behind the first one a variable is hidden.
        self.check("let @len = 1; { let @len = 2; len; } len;", LANGUAGE.format("len"), HIDES.format("len"))
        self.check("let Len = 1; Len;")
        self.check("class A { len() { } print(x) { return x; } } A();")

    def test_several_notes_at_one_offset(self):
        text = "let x = 1; print(x, fun (x, len, y) { });"
        self.assertEqual(noted(text), [
            (20, USED.format("x")), (20, USED.format("len")), (20, USED.format("y")), (20, HIDES.format("x")),
            (20, LANGUAGE.format("len"))])
        self.assertEqual(noted("let len = 1;"), [(4, READ.format("len")), (4, LANGUAGE.format("len"))])
        text = "let a = 1; let b = a; b; fun f(b, a) { }"
        self.assertEqual(noted(text), [(25, USED.format("b")), (25, USED.format("a")), (25, HIDES.format("b")),
                                       (25, HIDES.format("a")), (29, USED.format("f"))])
        text = "let x = 1; print(x, fun (len, x) { return [len, x]; });"
        self.assertEqual(noted(text), [(20, HIDES.format("x")), (20, LANGUAGE.format("len"))])


class ConditionsTest(NotesCase):
    TRUE = ["true", "0", "1", "\"\"", "\"a\"", "not null", "not false", "not not 1", "true and 1", "false or 0", "1 or x",
            "null or true", "not (false and x)", "(1)", "1 and not null", "false and x or 1"]
    FALSE = ["null", "false", "not true", "not 0", "not \"\"", "false and x", "null and 1", "1 and null", "false or null",
             "not (1 or x)", "null or not 1", "1 and 2 and false", "false or false and x"]
    OPEN = ["x", "-1", "- 0", "1 == 1", "1 + 1", "[]", "{}", "x or 1", "x and false", "1 and x", "null or x", "not x",
            "fun () { }", "x = 1", "not -1", "-1 and null", "-1 or 1", "1 < 2", "print", "[1][0]"]

    def test_if(self):
        head = "let x = 1; x; "
        for condition in self.TRUE:
            self.check(f"{head}@if ({condition}) x;", ALWAYS)
            self.check(f"{head}@if ({condition}) x; else x;", ALWAYS)
        for condition in self.FALSE:
            self.check(f"{head}@if ({condition}) x;", NEVER)
        for condition in self.OPEN:
            self.check(f"{head}if ({condition}) x;")

    def test_while(self):
        head = "let x = 1; x; "
        for condition in self.TRUE + self.OPEN:
            self.check(f"{head}while ({condition}) x;")
        for condition in self.FALSE:
            self.check(f"{head}@while ({condition}) x;", NEVER)

    def test_everywhere(self):
        self.check("print(fun () { @if (1) { @while (null) { @if (false) 1; } } });", ALWAYS, NEVER, NEVER)
        self.check("class A { m() { try { @if (1) 1; } catch (e) { e; @if (null) 2; } } } A();", ALWAYS, NEVER)


class FollowingTest(NotesCase):
    def test_leaving(self):
        self.check("print(fun () { @return; 1; });", FOLLOWS)
        self.check("print(fun () { 1; return; });")
        self.check("@throw 1; 2;", FOLLOWS)
        self.check("throw 1;")
        self.check("while (1) { @break; 1; }", FOLLOWS)
        self.check("while (1) { @continue; 1; }", FOLLOWS)
        self.check("while (1) { break; }")
        self.check("@throw 1; @throw 2; @throw 3; 4;", FOLLOWS, FOLLOWS, FOLLOWS)

    def test_what_follows_needs_code(self):
        self.check("throw 1; { }")
        self.check("throw 1; { { } { } }")
        self.check("@throw 1; { { } { 1; } }", FOLLOWS)
        self.check("@throw 1; { } 1;", FOLLOWS)
        self.check("@throw 1; if (fun () { }) { }", FOLLOWS)
        self.check("@throw 1; let @x = 1;", FOLLOWS, READ.format("x"))
        self.check("@throw 1; fun @f() { }", FOLLOWS, USED.format("f"))
        self.check("@throw 1; 1;", FOLLOWS)

    def test_blocks_that_are_items(self):
        self.check("{ @throw 1; } 2;", FOLLOWS)
        self.check("{ { @throw 1; } } 2;", FOLLOWS)
        self.check("{ { @throw 1; } { } } 2;", FOLLOWS)
        self.check("{ throw 1; }")
        self.check("{ throw 1; } { }")
        self.check("{ @throw 1; { } 3; } 2;", FOLLOWS)
        self.check("{ 1; { @throw 1; } } { { 3; } }", FOLLOWS)

    def test_other_blocks(self):
        # A branch, a body and the blocks of `try` are no items: what stands in them is not followed by what comes later.
        self.check("if (print) { throw 1; } 2;")
        self.check("if (print) throw 1; 2;")
        self.check("while (print) { throw 1; } 2;")
        self.check("for (x in []) { x; throw 1; } 2;")
        self.check("try { throw 1; } catch (e) { e; } 2;")
        self.check("print(fun () { return; }); 2;")
        self.check("if (print) { { @throw 1; } 2; } 3;", FOLLOWS)

    def test_if(self):
        self.check("@if (print) throw 1; else throw 2; 3;", FOLLOWS)
        self.check("if (print) throw 1; else throw 2;")
        self.check("if (print) throw 1; else 2; 3;")
        self.check("if (print) 1; else throw 2; 3;")
        self.check("@if (print) { 1; { throw 1; } } else { if (print) throw 2; else throw 3; } 4;", FOLLOWS)
        text = "if (1) throw 1; 2;"
        self.assertEqual(noted(text), [(0, ALWAYS), (0, FOLLOWS)])
        text = "if (1) throw 1; else 2; 3;"
        self.assertEqual(noted(text), [(0, ALWAYS), (0, FOLLOWS)])
        text = "if (null) 1; else throw 2; 3;"
        self.assertEqual(noted(text), [(0, NEVER), (0, FOLLOWS)])
        self.check("@if (null) throw 1; 2;", NEVER)
        self.check("@if (null) throw 1; else 2; 3;", NEVER)
        self.check("@if (1) 1; else throw 2; 3;", ALWAYS)

    def test_while(self):
        self.check("@while (true) { } 1;", FOLLOWS)
        self.check("while (true) { }")
        self.check("@while (0) 1; 1;", FOLLOWS)
        self.check("while (print) { } 1;")
        self.check("while (true) { break; } 1;")
        self.check("while (true) if (print) break; 1;")
        self.check("while (true) { try { } catch (e) { e; { if (print) 1; else break; } } } 1;")
        self.check("@while (true) { while (print) break; } 1;", FOLLOWS)
        self.check("@while (true) { for (x in []) { x; break; } } 1;", FOLLOWS)
        self.check("@while (true) { print(fun () { while (print) break; }); } 1;", FOLLOWS)
        self.check("@while (true) { continue; } 1;", FOLLOWS)
        # A `break` that is never executed belongs to its loop, too.
        self.check("while (true) { @continue; break; } 1;", FOLLOWS)
        self.check("@while (null) { throw 1; } 1;", NEVER)
        self.check("for (x in []) { x; throw 1; } 1;")

    def test_try(self):
        self.check("@try { throw 1; } catch (e) { throw e; } 2;", FOLLOWS)
        self.check("try { throw 1; } catch (e) { e; } 2;")
        self.check("try { 1; } catch (e) { throw e; } 2;")
        self.check("try { throw 1; } catch (e) { throw e; }")
        self.check("@try { { @throw 1; } 5; } catch (e) { while (1) e; } 2;", FOLLOWS, FOLLOWS)

    def test_nothing_else(self):
        self.check("let f = fun () { throw 1; }; f(); 2;")
        self.check("print(fun () { throw 1; }); 2;")
        self.check("let x = 1; x; 2;")
        self.check("fun f() { throw 1; } f();")

    def test_order(self):
        text = "fun f(len) { @if (1) { return; } 2; } let x = 1;"
        plain = text.replace("@", "")
        self.assertEqual(noted(plain), [
            (0, USED.format("len")), (0, LANGUAGE.format("len")), (4, USED.format("f")), (13, ALWAYS), (13, FOLLOWS),
            (plain.index("x ="), READ.format("x"))])


class RunsTest(unittest.TestCase):
    """What the notes tell holds in every run."""

    def programs(self):
        for number, text in enumerate(programs(88, 90)):
            changed = text
            for old, new in (("if (", "if (1 or "), ("if (", "if (null and "), ("while ((", "while (null and (")):
                tried = changed.replace(old, new, number % 3 + 1)
                if refusal(read_program, tried) is None:
                    changed = tried
            yield Program(changed)

    def test_variables_are_never_loaded(self):
        for program in self.programs():
            unused = {(offset, message.split()[0]) for offset, message in notes_of(program.tree) if " is never " in message
                      and not message.startswith("the condition")}
            loads = loaded_variables(program)
            for offset, name in unused:
                self.assertNotIn((offset, name), loads)

    def test_conditions(self):
        for program in self.programs():
            notes = {offset: message for offset, message in notes_of(program.tree) if message in (ALWAYS, NEVER)}
            if notes:
                tree = with_values(program.tree, notes)
                self.assertNotEqual(tree, program.tree)
                ours = program.after(["7"], 3000)
                theirs = Machine(translate(tree), ["7"])
                theirs.run(3000)
                if "running" not in (ours.status(), theirs.status()):
                    self.assertEqual((ours.store.output, ours.status(), ours.store.taken),
                                     (theirs.store.output, theirs.status(), theirs.store.taken))

    def test_what_follows_is_never_executed(self):
        for program in self.programs():
            notes = [offset for offset, message in notes_of(program.tree) if message == FOLLOWS]
            never = [inner for offset in notes for inner in behind(program.tree, offset)]
            steps = history(program, ["7"], 2000)
            places = {step.place for step in steps if step.line is not None}
            for offset, number in never:
                self.assertNotIn((number, *place_of(program.text, offset)), places)


def loaded_variables(program):
    """The variables whose value is taken somewhere, as pairs of the offset of a note and a name; told by scopes alone."""
    found = set()

    def look(term, scope):
        kind = term[0]
        if kind == "name":
            for name, offset in scope:
                if name == term[2]:
                    found.add((offset, name))
                    return
        elif kind == "block":
            for item in term[1]:
                if item[0] == "let":
                    look(item[3], scope)
                    scope = [(item[2], item[1])] + scope
                elif item[0] == "group":
                    scope = [(name, offset) for offset, name, _ in item[1]] + scope
                    for _, _, member in item[1]:
                        look(member, scope)
                else:
                    look(item, scope)
        elif kind == "function":
            look(term[4], [(name, term[1]) for name in term[3]] + scope)
        elif kind == "for":
            look(term[4], scope)
            look(term[5], [(term[3], term[2])] + scope)
        elif kind == "try":
            look(term[2], scope)
            look(term[5], [(term[4], term[3])] + scope)
        else:
            with_parts(term, lambda part: look(part, scope))

    look(program.tree, [])
    return found


def with_values(term, notes):
    """The tree with the conditions at these offsets replaced by their values."""
    term = with_parts(term, lambda part: with_values(part, notes))
    if term[0] in ("if", "while") and term[1] in notes:
        return (*term[:2], ("bool", notes[term[1]] == ALWAYS), *term[3:])
    return term


def behind(tree, offset):
    """The offsets told by the statements behind the one at an offset in its block, with the number of their function."""
    found = []

    def offsets(term):
        if term[0] in ("binary", "index", "field", "call", "invoke", "throw"):
            found.append((term[1], number[-1]))
        if term[0] != "function":
            with_parts(term, lambda part: offsets(part))

    number = [0]

    def look(term):
        if term[0] == "function":
            number.append(term[2])
        if term[0] == "block":
            for at, item in enumerate(term[1]):
                if item[0] != "group" and len(item) > 1 and item[1] == offset and item[0] not in ("let", "do"):
                    for later in term[1][at + 1:]:
                        offsets(later)
        with_parts(term, look)
        if term[0] == "function":
            number.pop()

    look(tree)
    return found


if __name__ == "__main__":
    unittest.main()
