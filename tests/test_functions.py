"""Names in scope and the functions of a program: points [18] and [20]."""

import unittest

from helpers import item_of
from livequill.names.functions import Function, functions_in, functions_of, scope_after
from livequill.text.parser import parse, parse_expression
from livequill.text.trees import parts_of
from samples import trees


def told(text):
    """The titles of the functions of a program and the names in scope around them, without the program."""
    return [(function.title, function.around) for function in functions_of(parse(text))[1:]]


class ScopeAfterTest(unittest.TestCase):
    def check(self, text, names):
        item = item_of(text)
        with self.subTest(text):
            self.assertEqual(scope_after(item, ("a", "b")), (*names, "a", "b"))
            self.assertEqual(scope_after(item, ()), tuple(names))
            self.assertIsInstance(scope_after(item, ()), tuple)

    def test_let(self):
        self.check("let x = 1;", ["x"])
        self.check("let a = 1;", ["a"])
        self.check("let x = fun (y) { let z = 1; };", ["x"])

    def test_groups(self):
        self.check("fun f() { }", ["f"])
        self.check("class A { }", ["A"])
        self.check("fun f(x) { let y = 1; } class A { m() { } } fun g() { }", ["f", "A", "g"])
        self.check("fun f() { } fun f() { }", ["f", "f"])

    def test_other_items(self):
        for text in ("x;", "x = 1;", "{ let x = 1; }", "if (x) { let y = 1; }", "while (x) { let y = 1; }",
                     "for (x in y) { }", "try { let x = 1; } catch (y) { }", "break;", "continue;", "return x;",
                     "throw x;"):
            self.check(text, [])


class ScopesTest(unittest.TestCase):
    def check(self, text, *expected):
        with self.subTest(text):
            self.assertEqual(told(text), list(expected))

    def test_let_is_in_scope_behind_itself(self):
        self.check("let x = fun () { }; let y = fun () { }; f(fun () { });",
                   ("x", ()), ("y", ("x",)), ("", ("y", "x")))

    def test_a_block_ends_the_scope(self):
        self.check("let x = 1; { let y = 2; f(fun () { }); } f(fun () { });", ("", ("y", "x")), ("", ("x",)))

    def test_the_same_name_again(self):
        self.check("let x = 1; let x = fun () { }; { let x = fun () { }; }", ("x", ("x",)), ("x", ("x", "x")))

    def test_groups(self):
        self.check("let x = 1; fun f() { } class A { m() { } } fun g() { } h(fun () { });",
                   ("f", ("f", "A", "g", "x")), ("A.m", ("super", "f", "A", "g", "x")), ("g", ("f", "A", "g", "x")),
                   ("", ("f", "A", "g", "x")))

    def test_parameters(self):
        self.check("fun f(x, y) { fun g(z) { return fun () { }; } }",
                   ("f", ("f",)), ("g", ("g", "x", "y", "f")), ("", ("z", "g", "x", "y", "f")))

    def test_for(self):
        self.check("let a = 1; for (x in f(fun () { })) f(fun () { }); f(fun () { });",
                   ("", ("a",)), ("", ("x", "", "a")), ("", ("a",)))
        self.check("for (x in y) { let z = 1; for (u in v) { let f = fun () { }; } }",
                   ("f", ("u", "", "z", "x", "")))

    def test_while_and_if(self):
        self.check("while (f(fun () { })) f(fun () { }); if (fun () { }) fun () { }; else fun () { };",
                   ("", ()), ("", ()), ("", ()), ("", ()), ("", ()))

    def test_catch(self):
        self.check("try { let y = 1; f(fun () { }); } catch (x) { f(fun () { }); } f(fun () { });",
                   ("", ("y",)), ("", ("x",)), ("", ()))

    def test_classes(self):
        self.check("class A extends B { init(x) { return fun () { }; } }",
                   ("A.init", ("super", "A")), ("", ("this", "x", "super", "A")))
        self.check("class A { m() { let f = fun (y) { g(fun () { }); }; } }",
                   ("A.m", ("super", "A")), ("f", ("this", "super", "A")),
                   ("", ("y", "this", "super", "A")))

    def test_classes_in_functions(self):
        self.check("fun f(x) { class A { m() { class B { n() { } } } } }",
                   ("f", ("f",)), ("A.m", ("super", "A", "x", "f")),
                   ("B.n", ("super", "B", "this", "super", "A", "x", "f")))


class TitlesTest(unittest.TestCase):
    def check(self, text, *titles):
        with self.subTest(text):
            self.assertEqual([title for title, _ in told(text)], list(titles))

    def test_members(self):
        self.check("fun f() { } class A { m() { } init() { } }", "f", "A.m", "A.init")

    def test_values_of_variables(self):
        self.check("let x = fun () { }; let y = (fun () { });", "x", "y")
        self.check("x = fun () { }; x = y = fun () { };", "x", "y")
        self.check("let x = y = fun () { };", "y")
        self.check("f(x = fun () { });", "x")

    def test_parts_of_values(self):
        self.check("let x = [fun () { }];", "")
        self.check("let x = fun () { }();", "")
        self.check("let x = f(fun () { }, 1);", "")
        self.check("let x = true and fun () { };", "")
        self.check("let x = {1: fun () { }};", "")
        self.check("x = not fun () { };", "")

    def test_other_functions(self):
        self.check("a.x = fun () { }; a[0] = fun () { }; fun () { }; f(fun () { });", "", "", "", "")
        self.check("fun f() { return fun () { }; }", "f", "")
        self.check("throw fun () { };", "")
        self.check("class A { m() { this.x = fun () { }; } }", "A.m", "")


class FunctionsOfTest(unittest.TestCase):
    def test_the_program(self):
        tree = parse("let x = 1;")
        (program,) = functions_of(tree)
        self.assertEqual((program.number, program.title, program.offset), (0, "", 0))
        self.assertEqual((program.params, program.around, program.body), ((), (), tree))
        (program,) = functions_of(parse(" "))
        self.assertEqual(program.offset, 0)

    def test_fields(self):
        tree = parse("let a = 1;  fun f(x, y) { x; }")
        program, function = functions_of(tree)
        self.assertIsInstance(function, Function)
        self.assertEqual((function.number, function.title, function.offset), (1, "f", 12))
        self.assertEqual((function.params, function.around), (("x", "y"), ("f", "a")))
        self.assertEqual(function.body, ("block", (("do", ("name", 26, "x")),)))
        self.assertEqual(program.number, 0)

    def test_methods(self):
        _, method = functions_of(parse("class A { m(x) { } }"))
        self.assertEqual((method.number, method.title, method.offset), (1, "A.m", 10))
        self.assertEqual((method.params, method.body), (("this", "x"), ("block", ())))

    def test_offsets(self):
        functions = functions_of(parse("f(fun () { fun g() { } }); let x = fun () { };"))
        self.assertEqual([function.offset for function in functions], [0, 2, 11, 35])

    def test_numbers_and_offsets_ascend(self):
        most = 0
        for _, tree in trees(5, 500):
            functions = functions_of(tree)
            self.assertEqual([function.number for function in functions], list(range(len(functions))))
            offsets = [function.offset for function in functions]
            self.assertEqual(offsets[1:], sorted(set(offsets[1:])))
            most = max(most, len(functions))
        self.assertGreater(most, 5)

    def test_functions_everywhere(self):
        """Each part of each kind of term is looked through."""
        texts = [
            "x = @", "a[@] = @", "@[@] = @", "@.x = @", "-@", "not @", "@ + @", "@ is @", "@ and @", "@ or @",
            "[@, @]", "({@: @, @: @})", "@[@]", "@.x", "@(@, @)", "@.x(@, @)", "super.x(@, @)",
            "fun () { @; @; }",
        ]
        for text in texts:
            with self.subTest(text):
                term = parse_expression(text.replace("@", "fun () { }"))
                self.assertEqual(len(functions_in(term, ())), text.count("@") + text.count("fun"))
        items = {
            "let x = @;": 1, "{ @; { @; } }": 2, "if (@) @; else @;": 3, "if (@) @;": 2, "while (@) @;": 2,
            "for (x in @) @;": 2, "return @;": 1, "throw @;": 1, "try { @; } catch (x) { @; }": 2,
            "fun f() { @; }": 2, "class A { m() { @; } n() { @; } }": 4, "@; @; let x = 1; @;": 3,
        }
        for text, many in items.items():
            with self.subTest(text):
                self.assertEqual(len(functions_of(parse(text.replace("@", "fun () { }")))), 1 + many)


class FunctionsInTest(unittest.TestCase):
    def told(self, text, around):
        found = functions_in(parse_expression(text), around)
        return [(function.number, function.title, function.around) for function in found]

    def test_an_expression_without_functions(self):
        self.assertEqual(self.told("1 + x", ("x",)), [])

    def test_the_expression_itself(self):
        self.assertEqual(self.told("fun (y) { }", ("x",)), [(1, "", ("x",))])

    def test_names_around(self):
        self.assertEqual(
            self.told("[fun (y) { return fun () { }; }, z = fun () { }]", ("this", "super")),
            [(1, "", ("this", "super")), (2, "", ("y", "this", "super")), (3, "z", ("this", "super"))])

    def test_numbers_from_a_given_one_on(self):
        found = functions_in(parse_expression("f(fun () { }, fun () { })", first=9), ())
        self.assertEqual([function.number for function in found], [9, 10])

    def test_items(self):
        (item,) = parts_of(parse("class A { m() { } }"))
        (found,) = functions_in(item, ("x",))
        self.assertEqual((found.title, found.around), ("A.m", ("super", "A", "x")))

    def test_without_the_program(self):
        found = functions_in(parse("let a = fun () { }; let b = fun () { };"), ("x",))
        self.assertEqual([(function.title, function.around) for function in found], [("a", ("x",)), ("b", ("a", "x"))])

    def test_the_list_is_new(self):
        term = parse_expression("fun () { }")
        functions_in(term, ()).clear()
        self.assertEqual(len(functions_in(term, ())), 1)


if __name__ == "__main__":
    unittest.main()
