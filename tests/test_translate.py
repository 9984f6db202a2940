"""The code of a tree: points [45] to [47], [61] for the names in scope, and [64] for an expression alone."""

import unittest

from livequill.asking.program import Program
from livequill.code.chunks import Chunk
from livequill.code.flaws import flaws_of
from livequill.code.translate import translate, translate_expression
from livequill.names.faults import read_program
from livequill.names.functions import functions_of
from livequill.text.parser import parse_expression
from livequill.values.refs import Builtin, Ref
from helpers import unmarked

END = [("const", None), ("ret",)]


def code_of(text, number=0):
    """The instructions of a function of a program."""
    return translate(read_program(text))[number].rows


def marked(text, number=0):
    """The instructions of a function, and the offsets of the marks in the text, counted from the function's."""
    plain, offsets = unmarked(text)
    tree = read_program(plain)
    start = functions_of(tree)[number].offset
    return translate(tree)[number].rows, [offset - start for offset in offsets]


class CodeTest(unittest.TestCase):
    def check(self, text, *rows, number=0):
        """Checks the code of a function, apart from its end; a text in place of an offset is a mark's number."""
        found, offsets = marked(text, number)
        expected = [tuple(offsets[int(part[1:])] if isinstance(part, str) and part[:1] == "@" else part for part in row)
                    for row in rows]
        self.assertEqual(found, expected + END)


class ExpressionsTest(CodeTest):
    def test_literals(self):
        for text, value in (("null", None), ("true", True), ("false", False), ("12", 12), ("\"a\\n\"", "a\n"), ("0", 0)):
            rows = code_of(f"{text};")
            self.assertEqual(rows, [("const", value), ("pop",), *END])
            self.assertIs(type(rows[0][1]), type(value))

    def test_names(self):
        self.check("let x = 1; let y = 2; x; y;", ("const", 1), ("declare",), ("const", 2), ("declare",), ("load", 1),
                   ("pop",), ("load", 0), ("pop",), ("drop", 1), ("drop", 1))
        self.check("len;", ("const", Builtin("len")), ("pop",))
        self.check("Error;", ("const", Ref(0)), ("pop",))
        self.check("let len = len; len;", ("const", Builtin("len")), ("declare",), ("load", 0), ("pop",), ("drop", 1))

    def test_assignment(self):
        self.check("let x = 1; let y = 2; x = y = 3;", ("const", 1), ("declare",), ("const", 2), ("declare",),
                   ("const", 3), ("save", 0), ("save", 1), ("pop",), ("drop", 1), ("drop", 1))

    def test_operators(self):
        words = {"+": "add", "-": "sub", "*": "mul", "/": "div", "mod": "mod", "==": "eq", "!=": "ne", "<": "lt",
                 "<=": "le", ">": "gt", ">=": "ge", "is": "is"}
        for sign, word in words.items():
            self.check(f"1 @{sign} 2;", ("const", 1), ("const", 2), (word, "@0"), ("pop",))
        self.check("@-1;", ("const", 1), ("negate", "@0"), ("pop",))
        self.check("@not 1;", ("const", 1), ("not", "@0"), ("pop",))
        self.check("1 @+ 2 @* @-3;", ("const", 1), ("const", 2), ("const", 3), ("negate", "@2"), ("mul", "@1"),
                   ("add", "@0"), ("pop",))

    def test_and_and_or(self):
        self.check("1 and 2;", ("const", 1), ("both", 3), ("const", 2), ("pop",))
        self.check("1 or 2;", ("const", 1), ("either", 3), ("const", 2), ("pop",))
        self.check("1 and 2 and 3 or 4;", ("const", 1), ("both", 3), ("const", 2), ("both", 5), ("const", 3),
                   ("either", 7), ("const", 4), ("pop",))

    def test_lists_and_maps(self):
        self.check("[1, [], 2];", ("const", 1), ("list", 0), ("const", 2), ("list", 3), ("pop",))
        self.check("1 @+ @{};", ("const", 1), ("map", 0, "@1"), ("add", "@0"), ("pop",))
        self.check("(@{1: 2, 3: 4});", ("const", 1), ("const", 2), ("const", 3), ("const", 4), ("map", 4, "@0"), ("pop",))

    def test_elements_and_fields(self):
        self.check("1@[2];", ("const", 1), ("const", 2), ("item", "@0"), ("pop",))
        self.check("1@[2] = 3;", ("const", 1), ("const", 2), ("const", 3), ("set_item", "@0"), ("pop",))
        self.check("1@.x;", ("const", 1), ("field", "x", "@0"), ("pop",))
        self.check("1@.x = 3;", ("const", 1), ("const", 3), ("set_field", "x", "@0"), ("pop",))
        self.check("1@.x@.y@[2] = 3;", ("const", 1), ("field", "x", "@0"), ("field", "y", "@1"), ("const", 2),
                   ("const", 3), ("set_item", "@2"), ("pop",))

    def test_calls(self):
        self.check("len@(1, 2);", ("const", Builtin("len")), ("const", 1), ("const", 2), ("call", 2, "@0"), ("pop",))
        self.check("len@();", ("const", Builtin("len")), ("call", 0, "@0"), ("pop",))
        self.check("1@.x(2, 3);", ("const", 1), ("const", 2), ("const", 3), ("invoke", "x", 2, "@0"), ("pop",))
        self.check("(1@.x)@(2);", ("const", 1), ("field", "x", "@0"), ("const", 2), ("call", 1, "@1"), ("pop",))

    def test_functions(self):
        self.check("fun (a, b) { };", ("closure", 1, 2), ("pop",))
        self.check("let f = fun () { return fun (x) { return x; }; };", ("closure", 1, 0), ("declare",), ("drop", 1))
        chunks = translate(read_program("let f = fun () { return fun (x) { return x; }; };"))
        self.assertEqual([(chunk.number, chunk.wanted) for chunk in chunks], [(0, 0), (1, 0), (2, 1)])
        self.assertEqual(chunks[1].rows, [("closure", 2, 1), ("ret",), *END])
        self.assertEqual(chunks[2].rows, [("load", 0), ("ret",), *END])

    def test_parameters_and_names_around(self):
        text = "let a = 1; let b = 2; fun f(x, y) { let z = 3; [a, b, f, x, y, z]; }"
        self.assertEqual(code_of(text, 1), [
            ("const", 3), ("declare",), ("load", 5), ("load", 4), ("load", 3), ("load", 1), ("load", 2), ("load", 0),
            ("list", 6), ("pop",), ("drop", 1), *END])


class StatementsTest(CodeTest):
    def test_an_empty_program(self):
        self.check("")
        self.check("{ { } }")

    def test_blocks(self):
        self.check("{ let x = 1; { let y = 2; } let z = 3; } 4;", ("const", 1), ("declare",), ("const", 2), ("declare",),
                   ("drop", 1), ("const", 3), ("declare",), ("drop", 1), ("drop", 1), ("const", 4), ("pop",))

    def test_groups(self):
        self.check("fun f() { g; } fun g() { f; } 1;", ("blank",), ("blank",), ("closure", 1, 0), ("save", 0), ("pop",),
                   ("closure", 2, 0), ("save", 1), ("pop",), ("const", 1), ("pop",), ("drop", 2))
        self.assertEqual(code_of("fun f() { g; } fun g() { f; } 1;", 1), [("load", 1), ("pop",), *END])
        self.check("let x = 0; fun f() { } x; fun g() { } f;", ("const", 0), ("declare",), ("blank",), ("closure", 1, 0),
                   ("save", 0), ("pop",), ("load", 1), ("pop",), ("blank",), ("closure", 2, 0), ("save", 0), ("pop",),
                   ("load", 1), ("pop",), ("drop", 1), ("drop", 1), ("drop", 1))

    def test_classes(self):
        self.check("@class A { m() { } n(x) { } }", ("blank",), ("const", None), ("declare",), ("class", "A", "@0"),
                   ("closure", 1, 1), ("method", "m"), ("closure", 2, 2), ("method", "n"), ("drop", 1), ("save", 0),
                   ("pop",), ("drop", 1))
        self.check("class P { } 1; @class A extends P { } @class B extends Error { }",
                   ("blank",), ("const", None), ("declare",), ("class", "P", 0), ("drop", 1), ("save", 0), ("pop",),
                   ("const", 1), ("pop",),
                   ("blank",), ("blank",), ("load", 2), ("declare",), ("class", "A", "@0"), ("drop", 1), ("save", 0),
                   ("pop",), ("const", Ref(0)), ("declare",), ("class", "B", "@1"), ("drop", 1), ("save", 1), ("pop",),
                   ("drop", 2), ("drop", 1))

    def test_methods_and_super(self):
        text = "class A extends Error { m(x) { this@.y = x; @super.n(x, 1); fun () { @super.k(); }; } }"
        rows, offsets = marked(text, 1)
        # The scope: this, x, "super", A.
        self.assertEqual(rows, [
            ("load", 0), ("load", 1), ("set_field", "y", offsets[0]), ("pop",),
            ("load", 0), ("load", 1), ("const", 1), ("load", 2), ("super", "n", 2, offsets[1]), ("pop",),
            ("closure", 2, 0), ("pop",), *END])
        self.assertEqual(code_of(unmarked(text)[0], 2), [
            ("load", 0), ("load", 2), ("super", "k", 0, 9), ("pop",), *END])

    def test_if(self):
        self.check("if (1) 2;", ("const", 1), ("unless", 5), ("const", 2), ("pop",), ("jump", 5))
        self.check("if (1) 2; else 3;", ("const", 1), ("unless", 5), ("const", 2), ("pop",), ("jump", 7), ("const", 3),
                   ("pop",))
        self.check("if (1) { let x = 2; } else { }", ("const", 1), ("unless", 6), ("const", 2), ("declare",), ("drop", 1),
                   ("jump", 6))

    def test_while(self):
        self.check("while (1) 2;", ("const", 1), ("unless", 5), ("const", 2), ("pop",), ("jump", 0))
        self.check("3; while (1) { }", ("const", 3), ("pop",), ("const", 1), ("unless", 5), ("jump", 2))

    def test_for(self):
        self.check("@for (x in 1) x;", ("const", 1), ("iter", "@0"), ("declare",), ("next", 9), ("declare",), ("load", 0),
                   ("pop",), ("drop", 1), ("jump", 3), ("drop", 1))
        self.check("let x = 5; @for (x in x) { }", ("const", 5), ("declare",), ("load", 0), ("iter", "@0"), ("declare",),
                   ("next", 9), ("declare",), ("drop", 1), ("jump", 5), ("drop", 1), ("drop", 1))

    def test_break_and_continue(self):
        self.check("while (1) break;", ("const", 1), ("unless", 4), ("escape", 0, 0, 4), ("jump", 0))
        self.check("while (1) continue;", ("const", 1), ("unless", 4), ("escape", 0, 0, 0), ("jump", 0))
        self.check("@for (x in 1) break;", ("const", 1), ("iter", "@0"), ("declare",), ("next", 8), ("declare",),
                   ("escape", 0, 1, 8), ("drop", 1), ("jump", 3), ("drop", 1))
        self.check("@for (x in 1) continue;", ("const", 1), ("iter", "@0"), ("declare",), ("next", 8), ("declare",),
                   ("escape", 0, 1, 3), ("drop", 1), ("jump", 3), ("drop", 1))

    def test_escapes_out_of_handlers_and_variables(self):
        rows = code_of("let a = 0; while (1) { let b = 2; try { let c = 3; try { break; } catch (e) { continue; } } "
                       "catch (f) { break; } } 9;")
        self.assertEqual(rows, [
            ("const", 0), ("declare",),
            ("const", 1), ("unless", 24), ("const", 2), ("declare",),
            ("enter", 19), ("const", 3), ("declare",),
            ("enter", 13), ("escape", 2, 2, 24), ("leave",), ("jump", 16),
            ("declare",), ("escape", 1, 3, 2), ("drop", 1),
            ("drop", 1), ("leave",), ("jump", 22),
            ("declare",), ("escape", 0, 2, 24), ("drop", 1),
            ("drop", 1), ("jump", 2),
            ("const", 9), ("pop",), ("drop", 1), *END])

    def test_escapes_in_loops_in_one_another(self):
        rows = code_of("try { for (x in 1) { let y = 2; while (3) { let z = 4; break; } continue; } } catch (e) { }")
        escapes = [row for row in rows if row[0] == "escape"]
        self.assertEqual(escapes, [("escape", 0, 1, 15), ("escape", 0, 2, 4)])
        self.assertEqual(rows[15], ("escape", 0, 2, 4))
        self.assertEqual(rows[4][0], "next")

    def test_loops_and_handlers_around_a_function_do_not_count(self):
        text = "while (1) { try { let f = fun () { while (2) { break; } }; } catch (e) { } }"
        self.assertEqual(code_of(text, 1), [("const", 2), ("unless", 4), ("escape", 0, 0, 4), ("jump", 0), *END])

    def test_return_and_throw(self):
        rows = code_of("fun f(x) { return x; return; return null; }", 1)
        self.assertEqual(rows, [("load", 0), ("ret",), ("const", None), ("ret",), ("const", None), ("ret",), *END])
        self.check("@throw 1;", ("const", 1), ("raise", "@0"))
        rows = code_of("fun f() { try { return 1; } catch (e) { } }", 1)
        self.assertEqual(rows[:4], [("enter", 5), ("const", 1), ("ret",), ("leave",)])

    def test_try(self):
        self.check("try { 1; } catch (x) { x; } 2;", ("enter", 5), ("const", 1), ("pop",), ("leave",), ("jump", 9),
                   ("declare",), ("load", 0), ("pop",), ("drop", 1), ("const", 2), ("pop",))
        self.check("try { } catch (x) { }", ("enter", 3), ("leave",), ("jump", 5), ("declare",), ("drop", 1))


class OffsetsTest(CodeTest):
    def test_offsets_are_counted_from_the_function(self):
        for before in ("", "1; ", "\n\n  ", "// comment\n"):
            text = before + "let f = fun (x) { return x@ + 1; };"
            self.check(before + "let f = fun (x) { return x + 1; };", *([("const", 1), ("pop",)] if before == "1; " else []),
                       ("closure", 1, 1), ("declare",), ("drop", 1))
            rows = translate(read_program(text.replace("@", "")))[1].rows
            self.assertEqual(rows, [("load", 0), ("const", 1), ("add", 19), ("ret",), *END])

    def test_a_method_begins_at_its_name(self):
        rows = code_of("class A { m() { return -1; } }", 1)
        self.assertEqual(rows[1], ("negate", 13))

    def test_moved_functions_have_the_same_code(self):
        one = translate(read_program("fun f(x) { return len(x); } print(f(\"ab\"));"))
        other = translate(read_program("// moved\n\n   fun f(x) { return len(x); }\nprint(f(\"ab\"));"))
        self.assertTrue(one[1] == other[1])
        self.assertFalse(one[0] == other[0])
        # What is around a function counts only where it is used.
        third = translate(read_program("fun g(x) { return len(x); }"))
        self.assertTrue(one[1] == third[1])

    def test_what_the_code_of_a_function_depends_on(self):
        base = translate(read_program("let a = 1; fun f(x) { return a; }"))[1]
        self.assertTrue(base == translate(read_program("let a = 2; fun f(y) { return a; }"))[1])
        self.assertFalse(base == translate(read_program("let a = 1; let b = 2; fun f(x) { return a; }"))[1])
        self.assertFalse(base == translate(read_program("let a = 1; fun f(x, y) { return a; }"))[1])
        inner = translate(read_program("fun f() { return fun () { }; }"))[1]
        self.assertFalse(inner == translate(read_program("fun g() { } fun f() { return fun () { }; }"))[2])


class ScopesTest(unittest.TestCase):
    """The names in scope before each instruction."""

    def scopes(self, text, number=0):
        chunk = translate(read_program(text))[number]
        self.assertEqual(len(chunk.scopes), len(chunk.rows))
        self.assertTrue(all(isinstance(scope, tuple) for scope in chunk.scopes))
        return [(row[0], " ".join(name or "-" for name in scope)) for row, scope in zip(chunk.rows, chunk.scopes)]

    def test_let_and_blocks(self):
        self.assertEqual(self.scopes("let x = 1; { let y = 2; y; } x;"), [
            ("const", ""), ("declare", ""), ("const", "x"), ("declare", "x"), ("load", "y x"), ("pop", "y x"),
            ("drop", "y x"), ("load", "x"), ("pop", "x"), ("drop", "x"), ("const", ""), ("ret", "")])

    def test_groups(self):
        self.assertEqual(self.scopes("let x = 1; fun f() { } fun g() { } 2;"), [
            ("const", ""), ("declare", ""), ("blank", "x"), ("blank", "g x"), ("closure", "f g x"), ("save", "f g x"),
            ("pop", "f g x"), ("closure", "f g x"), ("save", "f g x"), ("pop", "f g x"), ("const", "f g x"),
            ("pop", "f g x"), ("drop", "f g x"), ("drop", "x"), ("const", ""), ("ret", "")])

    def test_classes_and_methods(self):
        text = "class A extends Error { m(x) { fun (y) { }; } }"
        self.assertEqual(self.scopes(text), [
            ("blank", ""), ("const", "A"), ("declare", "A"), ("class", "super A"), ("closure", "super A"),
            ("method", "super A"), ("drop", "super A"), ("save", "A"), ("pop", "A"), ("drop", "A"), ("const", ""),
            ("ret", "")])
        self.assertEqual(self.scopes(text, 1), [(word, "this x super A") for word in ("closure", "pop", "const", "ret")])
        self.assertEqual(self.scopes(text, 2), [(word, "y this x super A") for word in ("const", "ret")])

    def test_for_and_try(self):
        self.assertEqual(self.scopes("for (x in 1) { let y = 2; break; }"), [
            ("const", ""), ("iter", ""), ("declare", ""), ("next", "-"), ("declare", "-"), ("const", "x -"),
            ("declare", "x -"), ("escape", "y x -"), ("drop", "y x -"), ("drop", "x -"), ("jump", "-"), ("drop", "-"),
            ("const", ""), ("ret", "")])
        self.assertEqual(self.scopes("let a = 1; try { let b = 2; } catch (e) { e; }"), [
            ("const", ""), ("declare", ""), ("enter", "a"), ("const", "a"), ("declare", "a"), ("drop", "b a"),
            ("leave", "a"), ("jump", "a"), ("declare", "a"), ("load", "e a"), ("pop", "e a"), ("drop", "e a"),
            ("drop", "a"), ("const", ""), ("ret", "")])

    def test_functions_in_loops(self):
        self.assertEqual(self.scopes("for (x in 1) { fun () { return x; }; }", 1),
                         [(word, "x -") for word in ("load", "ret", "const", "ret")])
        self.assertEqual(translate(read_program("for (x in 1) fun () { return x; };"))[1].scopes[0], ("x", ""))

    def test_the_end_of_a_function(self):
        self.assertEqual(self.scopes("let a = 1; fun f(x, y) { let z = 2; return z; }", 1), [
            ("const", "x y f a"), ("declare", "x y f a"), ("load", "z x y f a"), ("ret", "z x y f a"),
            ("drop", "z x y f a"), ("const", "x y f a"), ("ret", "x y f a")])


class ExpressionAloneTest(unittest.TestCase):
    def code(self, text, scope, number):
        term = parse_expression(text, first=number + 1)
        return translate_expression(term, scope, number)

    def test_names_in_scope(self):
        (chunk,) = self.code("a + b + len", ("b", "", "super", "a"), 5)
        self.assertEqual((chunk.number, chunk.wanted), (5, 0))
        self.assertEqual(chunk.rows, [
            ("load", 4), ("load", 1), ("add", 2), ("const", Builtin("len")), ("add", 6), ("save", 0), ("pop",), *END])
        self.assertEqual(chunk.scopes, [("", "b", "", "super", "a")] * 9)

    def test_assignment_and_super(self):
        (chunk,) = self.code("x = super.m(1)", ("this", "x", "super"), 2)
        self.assertEqual(chunk.rows, [("load", 1), ("const", 1), ("load", 3), ("super", "m", 1, 4), ("save", 2),
                                      ("save", 0), ("pop",), *END])

    def test_functions_in_it(self):
        chunks = self.code("[fun (x) { return fun () { return x + y; }; }, fun () { }]", ("y",), 3)
        self.assertEqual([(chunk.number, chunk.wanted) for chunk in chunks], [(3, 0), (4, 1), (5, 0), (6, 0)])
        self.assertEqual(chunks[0].rows, [("closure", 4, 1), ("closure", 6, 0), ("list", 2), ("save", 0), ("pop",), *END])
        self.assertEqual(chunks[1].rows, [("closure", 5, 0), ("ret",), *END])
        self.assertEqual(chunks[2].rows, [("load", 0), ("load", 2), ("add", 18), ("ret",), *END])
        self.assertEqual([chunk.scopes[0] for chunk in chunks], [("", "y"), ("x", "", "y"), ("x", "", "y"), ("", "y")])

    def test_it_is_sound(self):
        chunks = self.code("fun () { return [a, b = 1]; }", ("b", "a"), 0)
        self.assertEqual([flaw[2] for flaw in flaws_of(chunks)], ["too few variables"])
        chunks = self.code("1 and [2, fun () { return 3; }]", (), 0)
        self.assertEqual([flaw[2] for flaw in flaws_of(chunks)], ["too few variables"])


class ChunkTest(unittest.TestCase):
    def test_new_lists(self):
        tree = read_program("let x = 1; fun f() { }")
        translate(tree)[0].rows.clear()
        translate(tree).clear()
        self.assertEqual([len(chunk.rows) for chunk in translate(tree)], [10, 2])

    def test_equal(self):
        rows = [("const", 1), ("load", 0), ("map", 2, 5)]
        self.assertTrue(Chunk(1, 2, rows) == Chunk(1, 2, rows, [("a",)] * 3))
        for other in (Chunk(2, 2, rows), Chunk(1, 3, rows), Chunk(1, 2, rows[:2]), Chunk(1, 2, [("const", True), *rows[1:]]),
                      Chunk(1, 2, [("const", 2), *rows[1:]]), Chunk(1, 2, [rows[0], ("save", 0), rows[2]]),
                      Chunk(1, 2, [*rows[:2], ("map", 2, 6)])):
            self.assertFalse(Chunk(1, 2, rows) == other)
            self.assertTrue(Chunk(1, 2, rows) != other)

    def test_the_program_object(self):
        program = Program("fun f() { }")
        self.assertTrue(all(one == other for one, other in zip(program.chunks, translate(program.tree))))


if __name__ == "__main__":
    unittest.main()
