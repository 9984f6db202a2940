"""Makes programs by chance, always the same ones for one seed."""

import random

from livequill.errors import InvalidText
from livequill.text.parser import parse

NAMES = ["a", "b", "f", "print", "x1"]
LITERALS = ["1", "007", "true", "false", "null", '"q\\n\\"\\\\"', '""', "[]", "{}", "this", "a", "b"]
OPERATORS = "+ - * / mod == != < <= > >= is and or".split()


class Sampler:
    def __init__(self, seed):
        self.random = random.Random(seed)

    def name(self):
        return self.random.choice(NAMES)

    def several(self, make, most):
        return [make() for _ in range(self.random.randrange(most + 1))]

    def names(self):
        return ", ".join(self.several(self.name, 2))

    def program(self, depth):
        return " ".join(self.several(lambda: self.item(depth), 4))

    def block(self, depth):
        return "{" + self.program(depth - 1) + "}"

    def item(self, depth):
        kind = self.random.randrange(7)
        if depth > 0 and kind == 0:
            return f"let {self.name()} = {self.expression(depth - 1)};"
        if depth > 0 and kind == 1:
            return f"fun {self.name()}({self.names()}) {self.block(depth - 1)}"
        if depth > 0 and kind == 2:
            parent = self.random.choice(["", f" extends {self.name()}"])
            methods = self.several(lambda: f"m({self.names()}) {self.block(depth - 1)}", 2)
            return f"class {self.name()}{parent} {{ {' '.join(methods)} }}"
        return self.statement(depth - 1)

    def statement(self, depth):
        if depth <= 0:
            return self.random.choice(["a;", "{}", "break;", "continue;", "return;", "return null;"])
        inner = depth - 1
        kind = self.random.randrange(13)
        if kind <= 3:
            other = self.random.choice(["", " else {}", " else " + self.statement(inner)])
            return f"if ({self.expression(inner)}) {self.statement(inner)}{other}"
        if kind == 4:
            return f"while ({self.expression(inner)}) {self.statement(inner)}"
        if kind == 5:
            return f"for ({self.name()} in {self.expression(inner)}) {self.statement(inner)}"
        if kind == 6:
            return self.random.choice(["return ", "throw "]) + self.expression(inner) + ";"
        if kind == 7:
            return f"try {self.block(inner)} catch ({self.name()}) {self.block(inner)}"
        if kind == 8:
            return self.block(inner)
        return self.expression(inner) + ";"

    def expression(self, depth):
        if depth <= 0 or self.random.random() < 0.2:
            return self.random.choice(LITERALS)
        inner = depth - 1
        one = self.expression(inner)
        kind = self.random.randrange(12)
        if kind <= 2:
            return f"{one} {self.random.choice(OPERATORS)} {self.expression(inner)}"
        if kind == 3:
            return self.random.choice(["-", "not "]) + one
        if kind == 4:
            target = self.random.choice(["a", "(b)", "a.x", "(a[1])", "({}).x", "f()[0]"])
            return f"{target} = {one}"
        if kind == 5:
            return f"[{', '.join(self.several(lambda: self.expression(inner), 2))}]"
        if kind == 6:
            return f"{{{one}: {self.expression(inner)}}}"
        if kind == 7:
            return f"fun ({self.names()}) {self.block(inner)}"
        if kind == 8:
            return f"super.m({one})"
        if kind == 9:
            return f"({one} {self.random.choice(OPERATORS + ['='])} {self.expression(inner)})"
        return f"({one})" + self.random.choice(["[1]", ".x", "()", "(1, 2)", ".x()", ".x(a)", ""])


def trees(seed, count):
    """Yields pairs of a text and its tree, so many of them."""
    sampler = Sampler(seed)
    while count > 0:
        text = sampler.program(sampler.random.randrange(8))
        try:
            tree = parse(text)
        except InvalidText:
            continue
        yield text, tree
        count -= 1
