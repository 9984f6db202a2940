"""The names of the language."""

FUNCTION_NAMES = (
    "print", "read", "str", "int", "len", "range", "kind", "abs", "min", "max",
    "pow", "gcd", "sqrt", "base", "parse", "char", "assert", "copy", "equals",
)
ERROR_NAME = "Error"


def is_of_language(name):
    """Tells whether a name is one of the language."""
    return name == ERROR_NAME or name in FUNCTION_NAMES
