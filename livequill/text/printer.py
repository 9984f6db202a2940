"""Writes the canonical text of a tree."""

from livequill.text.levels import (
    AND, ASSIGNMENT, COMPARISON, NOT, OPERATORS, OR, SIGN, SUFFIXED, SUM,
)
from livequill.text.quoted import quoted

INDENT = "  "


def printed(program):
    """Returns the canonical text of a program."""
    return write_items(program[1], 0)


def printed_expression(term):
    """Returns the canonical text of an expression, as it stands on the right of an `=`."""
    return write(term, ASSIGNMENT, 0, False)


# Items and blocks


def write_items(items, indent):
    """Writes the items of a block on lines of their own."""
    return "".join([write_item(item, indent) for item in items])


def write_item(item, indent):
    """Writes the lines of an item, those of all members if it is a group."""
    if item[0] == "group":
        return "".join([write_line(write_member(member, indent), indent) for member in item[1]])
    if item[0] == "let":
        value = write(item[3], ASSIGNMENT, indent, False)
        return write_line(f"let {item[2]} = {value};", indent)
    return write_line(write_statement(item, indent, False), indent)


def write_line(text, indent):
    """Returns the text as a line within so many blocks and classes."""
    return INDENT * indent + text + "\n"


def write_member(member, indent):
    """Writes a function or a class with a name."""
    _, name, term = member
    if term[0] == "function":
        return f"fun {name}{write_rest(term, indent)}"
    return write_class(term, indent)


def write_class(term, indent):
    _, _, name, parent, methods = term
    head = f"class {name}" if parent is None else f"class {name} extends {parent[2]}"
    lines = [write_line(write_method(method, indent + 1), indent + 1) for method in methods]
    body = write_braces("".join(lines), indent)
    return f"{head} {body}"


def write_method(method, indent):
    """Writes a method. Its first parameter, `this`, is not written."""
    name, function = method
    params = ", ".join(function[3][1:])
    return f"{name}({params}) {write_block(function[4], indent)}"


def write_rest(function, indent):
    """Writes the parameters and the body of a function."""
    params = ", ".join(function[3])
    return f"({params}) {write_block(function[4], indent)}"


def write_block(block, indent):
    return write_braces(write_items(block[1], indent + 1), indent)


def write_braces(lines, indent):
    """Puts braces around the lines of a block or a class."""
    if lines == "":
        return "{ }"
    return "{\n" + lines + INDENT * indent + "}"


# Statements


def write_statement(term, indent, followed):
    """Writes a statement; `followed` tells whether an `else` of an outer `if` follows directly."""
    if term[0] in ("if", "while", "for"):
        action = OPEN_STATEMENTS[term[0]]
        return action(term, indent, followed)
    action = CLOSED_STATEMENTS[term[0]]
    return action(term, indent)


def write_if(term, indent, followed):
    _, _, condition, chosen, other = term
    ends = followed or other is not None
    head = f"if ({write(condition, ASSIGNMENT, indent, False)}) {write_statement(chosen, indent, ends)}"
    if other is not None:
        return f"{head} else {write_statement(other, indent, followed)}"
    # Without an `else` of its own it would take the one that follows.
    return head + " else { }" if followed else head


def write_while(term, indent, followed):
    condition = write(term[2], ASSIGNMENT, indent, False)
    return f"while ({condition}) {write_statement(term[3], indent, followed)}"


def write_for(term, indent, followed):
    _, _, _, name, whole, body = term
    head = f"for ({name} in {write(whole, ASSIGNMENT, indent, False)})"
    return f"{head} {write_statement(body, indent, followed)}"


def write_do(term, indent):
    return write(term[1], ASSIGNMENT, indent, True) + ";"


def write_leaving(term, indent):
    """Writes `break` or `continue`."""
    return term[0] + ";"


def write_return(term, indent):
    if term[2] == ("null",):
        return "return;"
    return f"return {write(term[2], ASSIGNMENT, indent, False)};"


def write_throw(term, indent):
    return f"throw {write(term[2], ASSIGNMENT, indent, False)};"


def write_try(term, indent):
    _, _, body, _, name, handler = term
    return f"try {write_block(body, indent)} catch ({name}) {write_block(handler, indent)}"


OPEN_STATEMENTS = {"if": write_if, "while": write_while, "for": write_for}
CLOSED_STATEMENTS = {
    "block": write_block, "do": write_do, "break": write_leaving, "continue": write_leaving,
    "return": write_return, "throw": write_throw, "try": write_try,
}


# Expressions


def write(term, least, indent, first):
    """Writes an expression where operators of this level or of higher ones may stand.

    `first` tells whether a statement begins with it.
    """
    if level_of(term) < least or (first and term[0] == "map"):
        return f"({write_bare(term, indent, False)})"
    return write_bare(term, indent, first)


def level_of(term):
    """Returns the level of the operator of a term."""
    kind = term[0]
    if kind in ("assign", "set_index", "set_field"):
        return ASSIGNMENT
    if kind == "either":
        return OR
    if kind == "both":
        return AND
    if kind == "binary":
        return OPERATORS[term[2]]
    if kind == "unary":
        return NOT if term[2] == "not" else SIGN
    return SUFFIXED


def write_bare(term, indent, first):
    """Writes an expression without parentheses around it."""
    action = EXPRESSIONS[term[0]]
    return action(term, indent, first)


def write_literal(term, indent, first):
    if term[0] == "null":
        return "null"
    return "true" if term[1] else "false"


def write_number(term, indent, first):
    return str(term[1])


def write_text(term, indent, first):
    return quoted(term[1])


def write_name(term, indent, first):
    return term[2]


def write_assign(term, indent, first):
    return f"{term[2]} = {write(term[3], ASSIGNMENT, indent, False)}"


def write_set_index(term, indent, first):
    return f"{write_index(term, indent, first)} = {write(term[4], ASSIGNMENT, indent, False)}"


def write_set_field(term, indent, first):
    return f"{write_field(term, indent, first)} = {write(term[4], ASSIGNMENT, indent, False)}"


def write_unary(term, indent, first):
    if term[2] == "not":
        return "not " + write(term[3], NOT, indent, False)
    return "-" + write(term[3], SIGN, indent, False)


def write_binary(term, indent, first):
    return write_operator(term[2], term[3], term[4], indent, first)


def write_both(term, indent, first):
    return write_operator("and", term[1], term[2], indent, first)


def write_either(term, indent, first):
    return write_operator("or", term[1], term[2], indent, first)


def write_operator(operator, left, right, indent, first):
    """Writes an operator between its operands."""
    level = OPERATORS[operator]
    # Comparisons do not chain, all other levels go from left to right.
    least = SUM if level == COMPARISON else level
    return f"{write(left, least, indent, first)} {operator} {write(right, level + 1, indent, False)}"


def write_list(term, indent, first):
    return f"[{write_several(term[1], indent)}]"


def write_map(term, indent, first):
    pairs = [write_pair(key, value, indent) for key, value in term[2]]
    return "{" + ", ".join(pairs) + "}"


def write_pair(key, value, indent):
    return f"{write(key, ASSIGNMENT, indent, False)}: {write(value, ASSIGNMENT, indent, False)}"


def write_several(terms, indent):
    """Writes expressions with commas between them."""
    return ", ".join([write(term, ASSIGNMENT, indent, False) for term in terms])


def write_index(term, indent, first):
    return f"{write(term[2], SUFFIXED, indent, first)}[{write(term[3], ASSIGNMENT, indent, False)}]"


def write_field(term, indent, first):
    return f"{write(term[2], SUFFIXED, indent, first)}.{term[3]}"


def write_call(term, indent, first):
    _, _, called, arguments = term
    # Without parentheses the call of a field would be the call of a method.
    if called[0] == "field":
        head = f"({write(called, SUFFIXED, indent, False)})"
    else:
        head = write(called, SUFFIXED, indent, first)
    return f"{head}({write_several(arguments, indent)})"


def write_invoke(term, indent, first):
    return f"{write_field(term, indent, first)}({write_several(term[4], indent)})"


def write_super(term, indent, first):
    return f"super.{term[2]}({write_several(term[3], indent)})"


def write_function(term, indent, first):
    return f"fun {write_rest(term, indent)}"


EXPRESSIONS = {
    "null": write_literal, "bool": write_literal, "int": write_number, "text": write_text,
    "name": write_name, "assign": write_assign, "set_index": write_set_index,
    "set_field": write_set_field, "unary": write_unary, "binary": write_binary,
    "both": write_both, "either": write_either, "list": write_list, "map": write_map,
    "index": write_index, "field": write_field, "call": write_call, "invoke": write_invoke,
    "super": write_super, "function": write_function,
}
