"""Reads the tree of a text."""

from livequill.errors import InvalidText
from livequill.text.levels import AND, ASSIGNMENT, COMPARISON, NOT, OPERATORS, OR, SIGN
from livequill.text.reader import Reader
from livequill.text.terms import assignment, can_be_assigned, joined
from livequill.text.trees import parts_of

PROGRAM_DEPTH = 30
EXPRESSION_DEPTH = 29
MOST_AROUND = 60
EMPTY_BLOCK = ("block", ())


def parse(text):
    """Returns the tree of a program, a block. Raises InvalidText with its fault."""
    reader = Reader(text, 1)
    tree = read_items(reader, PROGRAM_DEPTH, None)
    check_terms(tree)
    return tree


def parse_expression(text, *, first=1):
    """Returns the term of a text that is one expression. Raises InvalidText with its fault."""
    reader = Reader(text, first)
    term = read_expression(reader, EXPRESSION_DEPTH)
    if not reader.at_end():
        reader.refuse("expected the end")
    check_terms(term)
    return term


def check_terms(tree):
    """Refuses a tree in which a term lies within too many others."""
    # Chains make trees of any depth, so this goes down level by level.
    level = [tree]
    for _ in range(MOST_AROUND):
        level = [part for term in level for part in parts_of(term)]
    if level:
        raise InvalidText(0, "nested too deeply")


# Items


def read_items(reader, depth, closing):
    """Reads items up to the sign that closes their block, or to the end, as a block."""
    items = []
    while reader.mark() != closing and not reader.at_end():
        items.append(read_item(reader, depth))
    return ("block", tuple(items))


def read_item(reader, depth):
    """Reads an item, a whole group if it begins one."""
    if begins_member(reader):
        return read_group(reader, depth)
    if reader.mark() == "let":
        return read_let(reader, depth)
    return read_statement(reader, depth - 1)


def begins_member(reader):
    """Tells whether a function or a class with a name comes next."""
    return reader.mark() == "class" or reader.names_function()


def read_group(reader, depth):
    """Reads the functions and classes that directly follow one another."""
    members = []
    while begins_member(reader):
        if reader.mark() == "class":
            members.append(read_class(reader, depth))
        else:
            members.append(read_named_function(reader, depth))
    return ("group", tuple(members))


def read_let(reader, depth):
    """Reads a `let` item."""
    reader.take_mark("let")
    offset, name = reader.take_name()
    reader.take_mark("=")
    value = read_expression(reader, depth - 1)
    reader.take_mark(";")
    return ("let", offset, name, value)


def read_named_function(reader, depth):
    """Reads a function with a name, as a member of a group."""
    start = reader.take_mark("fun")
    offset, name = reader.take_name()
    return (offset, name, read_function(reader, depth, start, ()))


def read_class(reader, depth):
    """Reads a class, as a member of a group."""
    start = reader.take_mark("class")
    offset, name = reader.take_name()
    parent = None
    if reader.mark() == "extends":
        reader.take()
        place, parent_name = reader.take_name()
        parent = ("name", place, parent_name)
    reader.take_mark("{")
    methods = []
    while reader.mark() != "}":
        place, method = reader.take_name()
        methods.append((method, read_function(reader, depth, place, ("this",))))
    reader.take_mark("}")
    return (offset, name, ("class", start, name, parent, tuple(methods)))


def read_function(reader, depth, offset, first_params):
    """Reads the parameters and the body of a function within what has this depth."""
    number = reader.take_number()
    reader.take_mark("(")
    params = read_several(reader, depth, ")", read_param)
    return ("function", offset, number, first_params + params, read_block(reader, depth - 1))


def read_param(reader, depth):
    """Reads the name of a parameter."""
    return reader.take_name()[1]


def read_block(reader, depth):
    """Reads a block that has this depth."""
    reader.check_depth(depth)
    reader.take_mark("{")
    block = read_items(reader, depth, "}")
    reader.take_mark("}")
    return block


# Statements


def read_statement(reader, depth):
    """Reads a statement that has this depth."""
    reader.check_depth(depth)
    if reader.mark() in STATEMENTS:
        action = STATEMENTS[reader.mark()]
        return action(reader, depth)
    term = read_expression(reader, depth - 1)
    reader.take_mark(";")
    return ("do", term)


def read_condition(reader, depth):
    """Reads an expression in parentheses, a part of a statement."""
    reader.take_mark("(")
    condition = read_expression(reader, depth - 1)
    reader.take_mark(")")
    return condition


def read_if(reader, depth):
    offset = reader.take_mark("if")
    condition = read_condition(reader, depth)
    chosen = read_statement(reader, depth - 1)
    other = None
    if reader.mark() == "else":
        reader.take()
        other = read_statement(reader, depth - 1)
    if other == EMPTY_BLOCK:
        other = None
    return ("if", offset, condition, chosen, other)


def read_while(reader, depth):
    offset = reader.take_mark("while")
    condition = read_condition(reader, depth)
    return ("while", offset, condition, read_statement(reader, depth - 1))


def read_for(reader, depth):
    offset = reader.take_mark("for")
    reader.take_mark("(")
    place, name = reader.take_name()
    reader.take_mark("in")
    whole = read_expression(reader, depth - 1)
    reader.take_mark(")")
    return ("for", offset, place, name, whole, read_statement(reader, depth - 1))


def read_leaving(reader, depth):
    """Reads `break` or `continue`."""
    _, offset, word = reader.take()
    reader.take_mark(";")
    return (word, offset)


def read_return(reader, depth):
    offset = reader.take_mark("return")
    value = ("null",)
    if reader.mark() != ";":
        value = read_expression(reader, depth - 1)
    reader.take_mark(";")
    return ("return", offset, value)


def read_throw(reader, depth):
    offset = reader.take_mark("throw")
    value = read_expression(reader, depth - 1)
    reader.take_mark(";")
    return ("throw", offset, value)


def read_try(reader, depth):
    offset = reader.take_mark("try")
    body = read_block(reader, depth - 1)
    reader.take_mark("catch")
    reader.take_mark("(")
    place, name = reader.take_name()
    reader.take_mark(")")
    return ("try", offset, body, place, name, read_block(reader, depth - 1))


STATEMENTS = {
    "{": read_block, "if": read_if, "while": read_while, "for": read_for,
    "break": read_leaving, "continue": read_leaving,
    "return": read_return, "throw": read_throw, "try": read_try,
}


# Expressions


def read_expression(reader, depth):
    """Reads an expression that has this depth."""
    reader.check_depth(depth)
    term = read_operators(reader, depth, OR)
    if reader.mark() != "=":
        return term
    if not can_be_assigned(term):
        reader.refuse("this cannot be assigned to")
    reader.take()
    return assignment(term, read_expression(reader, depth - 1))


def read_operators(reader, depth, least):
    """Reads operands that are joined by operators of this level and of higher ones."""
    if least <= NOT and reader.mark() == "not":
        offset = reader.take_mark("not")
        reader.check_depth(depth - 1)
        term = ("unary", offset, "not", read_operators(reader, depth - 1, NOT))
        most = AND
    else:
        term = read_sign(reader, depth)
        most = SIGN
    while least <= OPERATORS.get(reader.mark(), ASSIGNMENT) <= most:
        _, offset, operator = reader.take()
        level = OPERATORS[operator]
        right = read_operators(reader, depth, level + 1)
        term = joined(offset, operator, term, right)
        # Comparisons do not chain: behind one only `and` and `or` can follow.
        most = AND if level == COMPARISON else level
    return term


def read_sign(reader, depth):
    """Reads an operand, after a `-` or not."""
    if reader.mark() != "-":
        return read_suffixed(reader, depth)
    offset = reader.take_mark("-")
    reader.check_depth(depth - 1)
    return ("unary", offset, "-", read_sign(reader, depth - 1))


def read_suffixed(reader, depth):
    """Reads a primary and all that is called, indexed or named behind it."""
    term = read_primary(reader, depth)
    while reader.mark() in ("(", "[", "."):
        if reader.mark() == "(":
            offset = reader.token()[1]
            term = ("call", offset, term, read_arguments(reader, depth))
        elif reader.mark() == "[":
            term = read_index(reader, depth, term)
        else:
            term = read_field(reader, depth, term)
    return term


def read_index(reader, depth, term):
    """Reads an index behind a term."""
    offset = reader.take_mark("[")
    index = read_expression(reader, depth - 1)
    reader.take_mark("]")
    return ("index", offset, term, index)


def read_field(reader, depth, term):
    """Reads a field, or the call of a method, behind a term."""
    offset = reader.take_mark(".")
    name = reader.take_name()[1]
    if reader.mark() == "(":
        return ("invoke", offset, term, name, read_arguments(reader, depth))
    return ("field", offset, term, name)


def read_arguments(reader, depth):
    """Reads the arguments of a call, in their parentheses."""
    reader.take_mark("(")
    return read_several(reader, depth - 1, ")", read_expression)


def read_several(reader, depth, closing, read_one):
    """Reads things of one sort with commas between them, and the sign that closes them."""
    held = []
    if reader.mark() != closing:
        held.append(read_one(reader, depth))
        while reader.mark() == ",":
            reader.take()
            held.append(read_one(reader, depth))
    reader.take_mark(closing)
    return tuple(held)


def read_primary(reader, depth):
    """Reads the part of an expression that has no operators and no suffixes around it."""
    if reader.mark() in PRIMARIES:
        action = PRIMARIES[reader.mark()]
        return action(reader, depth)
    kind, offset, value = reader.token()
    if kind not in ("number", "text", "name") and reader.mark() != "this":
        reader.refuse("expected an expression")
    reader.take()
    if kind == "number":
        return ("int", value)
    if kind == "text":
        return ("text", value)
    return ("name", offset, value)


def read_literal(reader, depth):
    """Reads `true`, `false` or `null`."""
    word = reader.take()[2]
    return ("null",) if word == "null" else ("bool", word == "true")


def read_super(reader, depth):
    offset = reader.take_mark("super")
    reader.take_mark(".")
    name = reader.take_name()[1]
    return ("super", offset, name, read_arguments(reader, depth))


def read_parentheses(reader, depth):
    reader.take_mark("(")
    term = read_expression(reader, depth - 1)
    reader.take_mark(")")
    return term


def read_list(reader, depth):
    reader.take_mark("[")
    return ("list", read_several(reader, depth - 1, "]", read_expression))


def read_map(reader, depth):
    offset = reader.take_mark("{")
    return ("map", offset, read_several(reader, depth - 1, "}", read_pair))


def read_pair(reader, depth):
    """Reads a key and a value of a map, which both have this depth."""
    key = read_expression(reader, depth)
    reader.take_mark(":")
    return (key, read_expression(reader, depth))


def read_plain_function(reader, depth):
    """Reads a function without a name."""
    return read_function(reader, depth, reader.take_mark("fun"), ())


PRIMARIES = {
    "true": read_literal, "false": read_literal, "null": read_literal,
    "super": read_super, "fun": read_plain_function,
    "(": read_parentheses, "[": read_list, "{": read_map,
}
