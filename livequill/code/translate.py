"""Translates a program, or an expression alone, into code."""

from livequill.code.coder import Coder
from livequill.code.expressions import code_expression
from livequill.code.statements import code_statement
from livequill.names.functions import functions_in, functions_of


def translate(tree):
    """Returns the code of a program without faults, a list of chunks."""
    return [function_chunk(function) for function in functions_of(tree)]


def translate_expression(term, scope, number):
    """Returns the code of an expression with these names in scope, and behind it that of the functions in it."""
    inner = ("", *scope)
    coder = Coder(inner, 0)
    code_expression(coder, term)
    coder.emit(("save", 0))
    coder.emit(("pop",))
    finish(coder)
    return [coder.chunk(number, 0), *[function_chunk(function) for function in functions_in(term, inner)]]


def function_chunk(function):
    """Returns the code of a function."""
    coder = Coder((*function.params, *function.around), function.offset)
    code_statement(coder, function.body)
    finish(coder)
    return coder.chunk(function.number, len(function.params))


def finish(coder):
    """Adds the two instructions at the end of a function."""
    coder.emit(("const", None))
    coder.emit(("ret",))
