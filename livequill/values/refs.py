"""Values that Python has none for: objects of a store, and built-in functions."""

BUILTINS = (
    "print", "read", "str", "int", "len", "range", "kind", "abs", "min", "max",
    "pow", "gcd", "sqrt", "base", "parse", "char", "assert", "copy", "equals",
)


class Ref:
    """An object, by its number in a store."""

    def __init__(self, number):
        self.number = number

    def __eq__(self, other):
        return isinstance(other, Ref) and self.number == other.number

    def __repr__(self):
        return f"Ref({self.number})"


class Builtin:
    """A built-in function, by its name."""

    def __init__(self, name):
        self.name = name

    def __eq__(self, other):
        return isinstance(other, Builtin) and self.name == other.name

    def __repr__(self):
        return f"Builtin({self.name!r})"


def value_named(name):
    """Returns the built-in function with a name of the language, or the class Error."""
    return Builtin(name) if name in BUILTINS else Ref(0)
