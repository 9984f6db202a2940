"""The instructions: their words, and what their operands are."""

SHAPES = {
    "const": ("value",),
    "load": ("variable",), "save": ("variable",), "pop": (),
    "negate": ("offset",), "not": ("offset",),
    "add": ("offset",), "sub": ("offset",), "mul": ("offset",), "div": ("offset",), "mod": ("offset",),
    "eq": ("offset",), "ne": ("offset",),
    "lt": ("offset",), "le": ("offset",), "gt": ("offset",), "ge": ("offset",), "is": ("offset",),
    "jump": ("index",), "unless": ("index",), "both": ("index",), "either": ("index",),
    "list": ("number",), "map": ("number", "offset"),
    "item": ("offset",), "set_item": ("offset",),
    "field": ("name", "offset"), "set_field": ("name", "offset"),
    "call": ("number", "offset"), "invoke": ("name", "number", "offset"), "super": ("name", "number", "offset"),
    "closure": ("function", "number"),
    "declare": (), "blank": (), "drop": ("number",),
    "class": ("name", "offset"), "method": ("name",),
    "iter": ("offset",), "next": ("index",),
    "enter": ("index",), "leave": (), "escape": ("number", "number", "index"),
    "raise": ("offset",), "ret": (),
}
UNARY_WORDS = {"-": "negate", "not": "not"}
BINARY_WORDS = {
    "+": "add", "-": "sub", "*": "mul", "/": "div", "mod": "mod", "==": "eq", "!=": "ne",
    "<": "lt", "<=": "le", ">": "gt", ">=": "ge", "is": "is",
}
# The operator that each of these words stands for.
SIGNS = {
    "negate": "-", "not": "not", "add": "+", "sub": "-", "mul": "*", "div": "/", "mod": "mod", "eq": "==", "ne": "!=",
    "lt": "<", "le": "<=", "gt": ">", "ge": ">=", "is": "is",
}
