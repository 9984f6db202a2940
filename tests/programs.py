"""Makes programs without faults by chance, always the same ones for one seed, most of which end soon."""

import random

from livequill.errors import InvalidText
from livequill.names.faults import read_program

BINARY = "+ - * / mod == != < <= > >= is and or".split()
LITERALS = ["0", "1", "2", "3", "7", "-1", "true", "false", "null", '"a"', '""', '"xyz"', "[]", "{}", "[1, 2]", "[[1], 2]",
            '{"k": 1}', "{1: 2, true: 3}"]
LANGUAGE = ["str", "len", "kind", "abs", "min", "max", "int", "copy", "equals", "range", "gcd", "pow", "char", "Error",
            "print", "sqrt", "base", "parse", "assert"]
METHODS = ["push", "pop", "length", "slice", "join", "contains", "sort", "reverse", "keys", "items", "get", "has",
           "copy", "upper", "split", "m", "n", "init", "f", "x"]
FIELDS = ["x", "y", "f", "kind", "message", "m"]


PROLOGUE = """
let t = 1; let l = [3, 1]; let d = {"x": 1, 2: l};
fun id(p) { return p; } fun up() { return t = t + 1; }
class A { init(p) { this.x = p; } m() { return this.x; } }
class B extends A { init(p, q) { super.init(p); this.y = [q]; } n(p) { this.y.push(p); return super.m(); } }
class C extends Error { f() { return fun () { return this.kind; }; } }
let o = B(5, 6); let e = C("k", "m");
"""


class Chance:
    """Draws the parts of programs; `scope` holds the names that can be read there."""

    def __init__(self, seed):
        self.random = random.Random(seed)
        self.next = 0

    def pick(self, values):
        return self.random.choice(values)

    def new_name(self):
        self.next += 1
        return self.pick(["a", "b", "c", "len", "v"]) + self.pick(["", "1", "2", str(self.next)])

    def items(self, scope, depth, place):
        scope = list(scope)
        found = []
        for _ in range(self.random.randrange(1, 5)):
            found.append(self.item(scope, depth, place))
        return " ".join(found)

    def item(self, scope, depth, place):
        kind = self.random.randrange(10)
        if kind <= 1:
            name = self.new_name()
            text = f"let {name} = {self.expression(scope, depth - 1, place)};"
            scope.append(name)
            return text
        if kind == 2 and depth > 1:
            return self.group(scope, depth - 1, place)
        return self.statement(scope, depth, place)

    def group(self, scope, depth, place):
        names = []
        for _ in range(self.random.randrange(1, 3)):
            name = self.new_name()
            if name not in names:
                names.append(name)
        scope.extend(names)
        return " ".join(self.member(name, scope, depth, place) for name in names)

    def member(self, name, scope, depth, place):
        if self.random.random() < 0.5:
            return f"fun {name}{self.function(scope, depth, {**place, 'home': 'function', 'loop': False})}"
        parent = self.pick(["", "", " extends Error", f" extends {self.pick(scope)}"])
        inner = {"home": "function", "loop": False, "method": True}
        methods = []
        for method in ("init", "m", "n"):
            if self.random.random() < 0.5:
                home = {**inner, "home": "init"} if method == "init" else inner
                methods.append(method + self.function(scope, depth, home))
        return f"class {name}{parent} {{ {' '.join(methods)} }}"

    def function(self, scope, depth, place):
        params = [f"p{number}" for number in range(self.random.randrange(3))]
        return f"({', '.join(params)}) {{ {self.items([*scope, *params], depth - 1, place)} }}"

    def block(self, scope, depth, place):
        return "{ " + self.items(scope, depth - 1, place) + " }"

    def statement(self, scope, depth, place):
        if depth <= 0:
            return f"print({self.expression(scope, 0, place)});"
        inner = depth - 1
        looped = {**place, "loop": True}
        kind = self.random.randrange(16)
        if kind <= 2:
            return f"print({self.expression(scope, inner, place)}, {self.expression(scope, inner, place)});"
        if kind <= 4:
            return self.expression(scope, inner, place) + ";"
        if kind <= 6:
            other = self.pick(["", f" else {self.statement(scope, inner, place)}"])
            return f"if ({self.expression(scope, inner, place)}) {self.block(scope, inner, place)}{other}"
        if kind == 7:
            name = self.new_name()
            return (f"{{ let {name} = 3; while (({name} = {name} - 1) > 0) "
                    f"{self.block([*scope, name], inner, looped)} }}")
        if kind <= 9:
            name = self.new_name()
            whole = self.pick(["range(3)", '"abc"', "{1: 2, 3: 4}", self.expression(scope, inner, place)])
            return f"for ({name} in {whole}) {self.block([*scope, name], inner, looped)}"
        if kind <= 12:
            name = self.new_name()
            return (f"try {self.block(scope, inner, place)} catch ({name}) "
                    f"{self.block([*scope, name], inner, place)}")
        if kind == 13 and place["loop"]:
            return self.pick(["break;", "continue;"])
        if kind == 14 and place["home"] != "program":
            value = "" if place["home"] == "init" else " " + self.expression(scope, inner, place)
            return f"return{value};"
        if kind == 15:
            return f"throw {self.expression(scope, inner, place)};"
        return self.block(scope, inner, place)

    def arguments(self, scope, depth, place):
        return ", ".join(self.expression(scope, depth, place) for _ in range(self.random.randrange(3)))

    def expression(self, scope, depth, place):
        if depth <= 0 or self.random.random() < 0.25:
            names = list(scope) * 3 + LITERALS
            if place["method"]:
                names += ["this"] * 4
            return self.pick(names)
        inner = depth - 1
        kind = self.random.randrange(17)
        one = f"({self.expression(scope, inner, place)})"
        if kind <= 3:
            return f"{one} {self.pick(BINARY)} ({self.expression(scope, inner, place)})"
        if kind == 4:
            return self.pick(["-", "not "]) + one
        if kind == 5:
            return f"{self.pick(scope)} = {one}"
        if kind == 6:
            return self.pick([f"[{one}, {self.pick(scope)}]", f"{{{one}: {self.expression(scope, inner, place)}}}"])
        if kind == 7:
            return f"{one}[{self.expression(scope, inner, place)}]" + self.pick(["", f" = {self.pick(scope)}"])
        if kind == 8:
            return f"{one}.{self.pick(FIELDS)}" + self.pick(["", f" = {self.pick(scope)}"])
        if kind == 9:
            return f"{self.pick(scope)}({self.arguments(scope, inner, place)})"
        if kind == 10:
            return f"{self.pick(LANGUAGE)}({self.arguments(scope, inner, place)})"
        if kind <= 12:
            return f"{one}.{self.pick(METHODS)}({self.arguments(scope, inner, place)})"
        if kind == 13:
            return f"{one}({self.arguments(scope, inner, place)})"
        if kind == 14:
            home = {**place, "home": "function", "loop": False}
            return f"fun {self.function(scope, inner, home)}"
        if kind == 15 and place["method"]:
            return f"super.{self.pick(['init', 'm', 'n'])}({self.arguments(scope, inner, place)})"
        return self.pick(["read()", f"str({one})", f"kind({one})"])

    def program(self):
        place = {"home": "program", "loop": False, "method": False}
        names = ["t", "l", "d", "id", "up", "A", "B", "C", "o", "e"]
        parts = [PROLOGUE]
        for _ in range(self.random.randrange(1, 6)):
            part = self.items(names, 5, place)
            # What is thrown ends most programs soon if it is not caught.
            parts.append(part if self.random.random() < 0.2 else f"try {{ {part} }} catch (e) {{ print(e); }}")
        return " ".join(parts)


def programs(seed, count):
    """Yields so many programs without faults."""
    chance = Chance(seed)
    while count > 0:
        text = chance.program()
        try:
            read_program(text)
        except InvalidText:
            continue
        yield text
        count -= 1
