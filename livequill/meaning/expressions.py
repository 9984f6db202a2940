"""Evaluates expressions.

Each function here takes the evaluation, its innermost call and a term. The first of two
functions for a term plans the work for its parts, the second one follows on it.
"""

from livequill.machine.calls import call_named, call_parent, call_value
from livequill.values.kinds import is_true
from livequill.values.operators import (
    binary, get_field, get_item, make_class, make_list, make_map, set_field, set_item, unary,
)
from livequill.values.refs import value_named
from livequill.values.things import Closure, Variable


def literal(meaning, call, term):
    """Evaluates a number, a text, or a word; `null` alone has no value in its term."""
    call.stack.append(None if term[0] == "null" else term[1])


def name(meaning, call, term):
    ref = call.ref_of(term[2])
    call.stack.append(value_named(term[2]) if ref is None else meaning.store.at(ref).value)


def begin_assign(meaning, call, term):
    call.plan(assign, term)
    call.plan_terms((term[3],))


def assign(meaning, call, term):
    variable = meaning.store.at(call.ref_of(term[2]))
    variable.value = call.stack[-1]


def begin_set_index(meaning, call, term):
    call.plan(set_index, term)
    call.plan_terms(term[2:])


def set_index(meaning, call, term):
    x, i, value = call.take_values(3)
    call.stack.append(set_item(meaning.store, x, i, value))


def begin_set_field(meaning, call, term):
    call.plan(end_set_field, term)
    call.plan_terms((term[2], term[4]))


def end_set_field(meaning, call, term):
    x, value = call.take_values(2)
    call.stack.append(set_field(meaning.store, x, term[3], value))


def begin_unary(meaning, call, term):
    call.plan(end_unary, term)
    call.plan_terms((term[3],))


def end_unary(meaning, call, term):
    call.stack.append(unary(meaning.store, term[2], call.stack.pop()))


def begin_binary(meaning, call, term):
    call.plan(end_binary, term)
    call.plan_terms(term[3:])


def end_binary(meaning, call, term):
    x, y = call.take_values(2)
    call.stack.append(binary(meaning.store, term[2], x, y))


def begin_choice(meaning, call, term):
    """Begins `and` or `or`."""
    call.plan(choose, term)
    call.plan_terms((term[1],))


def choose(meaning, call, term):
    """Goes on with the second operand where the first one does not decide."""
    if is_true(call.stack[-1]) == (term[0] == "both"):
        call.stack.pop()
        call.plan_terms((term[2],))


def begin_list(meaning, call, term):
    call.plan(end_list, term)
    call.plan_terms(term[1])


def end_list(meaning, call, term):
    call.stack.append(make_list(meaning.store, call.take_values(len(term[1]))))


def begin_map(meaning, call, term):
    call.plan(end_map, term)
    call.plan_terms([part for pair in term[2] for part in pair])


def end_map(meaning, call, term):
    held = call.take_values(2 * len(term[2]))
    call.stack.append(make_map(meaning.store, list(zip(held[::2], held[1::2]))))


def begin_index(meaning, call, term):
    call.plan(index, term)
    call.plan_terms(term[2:])


def index(meaning, call, term):
    x, i = call.take_values(2)
    call.stack.append(get_item(meaning.store, x, i))


def begin_field(meaning, call, term):
    call.plan(field, term)
    call.plan_terms((term[2],))


def field(meaning, call, term):
    call.stack.append(get_field(meaning.store, call.stack.pop(), term[3]))


# Calls


def begin_call(meaning, call, term):
    call.plan(end_call, term)
    call.plan_terms((term[2], *term[3]))


def end_call(meaning, call, term):
    called, *values = call.take_values(1 + len(term[3]))
    frame, result = call_value(meaning.store, called, values, len(meaning.calls))
    meaning.follow(frame, result)


def begin_invoke(meaning, call, term):
    call.plan(end_invoke, term)
    call.plan_terms((term[2], *term[4]))


def end_invoke(meaning, call, term):
    x, *values = call.take_values(1 + len(term[4]))
    frame, result = call_named(meaning.store, x, term[3], values, len(meaning.calls))
    meaning.follow(frame, result)


def begin_super(meaning, call, term):
    call.plan(end_super, term)
    call.plan_terms(term[3])


def end_super(meaning, call, term):
    values = call.take_values(len(term[3]))
    # Nothing can be assigned to either variable, so both hold what they held ahead of the arguments.
    this = meaning.store.at(call.ref_of("this")).value
    parent = meaning.store.at(call.ref_of("super")).value
    frame, result = call_parent(meaning.store, this, parent, term[2], values, len(meaning.calls))
    meaning.follow(frame, result)


# Functions and classes


def function(meaning, call, term):
    call.stack.append(new_function(meaning, term, call.refs))


def new_function(meaning, term, scope):
    """Makes a function with these variables in scope."""
    return meaning.store.make(Closure(term[2], len(term[3]), scope))


def begin_class(meaning, call, term):
    call.plan(end_class, term)
    call.plan_terms((("null",) if term[3] is None else term[3],))


def end_class(meaning, call, term):
    parent = call.stack.pop()
    scope = (meaning.store.make(Variable(parent)), *call.refs)
    ref = make_class(meaning.store, term[2], parent)
    kin = meaning.store.at(ref)
    for title, method in term[4]:
        kin.methods[title] = new_function(meaning, method, scope)
    call.stack.append(ref)


EXPRESSIONS = {
    "null": literal, "bool": literal, "int": literal, "text": literal, "name": name,
    "assign": begin_assign, "set_index": begin_set_index, "set_field": begin_set_field,
    "unary": begin_unary, "binary": begin_binary, "both": begin_choice, "either": begin_choice,
    "list": begin_list, "map": begin_map, "index": begin_index, "field": begin_field,
    "call": begin_call, "invoke": begin_invoke, "super": begin_super,
    "function": function, "class": begin_class,
}
