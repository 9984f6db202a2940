"""What the instructions do.

Each function here takes the machine, its innermost frame, and the instruction, behind
which the frame stands already.
"""

from livequill.code.instructions import SIGNS
from livequill.errors import ScriptError
from livequill.machine.calls import call_named, call_parent, call_value
from livequill.values.kinds import is_true
from livequill.values.operators import (
    binary, get_field, get_item, make_class, make_cursor, make_list, make_map, next_of, set_field, set_item, unary,
)
from livequill.values.refs import Ref
from livequill.values.things import Closure, Cursor, Kin, Variable


def act(machine, frame, row):
    """Does what an instruction says."""
    action = ACTIONS[row[0]]
    action(machine, frame, row)


def constant(machine, frame, row):
    frame.stack.append(row[1])


def load(machine, frame, row):
    frame.stack.append(machine.store.at(frame.scope[row[1]]).value)


def save(machine, frame, row):
    variable = machine.store.at(frame.scope[row[1]])
    variable.value = frame.stack[-1]


def pop(machine, frame, row):
    frame.stack.pop()


def operate_on_one(machine, frame, row):
    frame.stack.append(unary(machine.store, SIGNS[row[0]], frame.stack.pop()))


def operate_on_two(machine, frame, row):
    x, y = frame.take_values(2)
    frame.stack.append(binary(machine.store, SIGNS[row[0]], x, y))


# Jumps


def jump(machine, frame, row):
    frame.at = row[-1]


def jump_unless(machine, frame, row):
    if not is_true(frame.stack.pop()):
        frame.at = row[1]


def jump_in_choice(machine, frame, row):
    """Does `both` or `either`."""
    if is_true(frame.stack[-1]) == (row[0] == "either"):
        frame.at = row[1]
    else:
        frame.stack.pop()


# Lists, maps, elements and fields


def new_list(machine, frame, row):
    frame.stack.append(make_list(machine.store, frame.take_values(row[1])))


def new_map(machine, frame, row):
    held = frame.take_values(row[1])
    frame.stack.append(make_map(machine.store, list(zip(held[::2], held[1::2]))))


def item(machine, frame, row):
    x, i = frame.take_values(2)
    frame.stack.append(get_item(machine.store, x, i))


def change_item(machine, frame, row):
    x, i, value = frame.take_values(3)
    frame.stack.append(set_item(machine.store, x, i, value))


def field(machine, frame, row):
    frame.stack.append(get_field(machine.store, frame.stack.pop(), row[1]))


def change_field(machine, frame, row):
    x, value = frame.take_values(2)
    frame.stack.append(set_field(machine.store, x, row[1], value))


# Calls


def call(machine, frame, row):
    called, *values = frame.take_values(1 + row[1])
    entered, result = call_value(machine.store, called, values, len(machine.frames))
    follow(machine, frame, entered, result)


def invoke(machine, frame, row):
    x, *values = frame.take_values(1 + row[2])
    entered, result = call_named(machine.store, x, row[1], values, len(machine.frames))
    follow(machine, frame, entered, result)


def call_super(machine, frame, row):
    this, *values, parent = frame.take_values(2 + row[2])
    entered, result = call_parent(machine.store, this, parent, row[1], values, len(machine.frames))
    follow(machine, frame, entered, result)


def follow(machine, frame, entered, result):
    """Begins the call of a function, or goes on with the result of an operation."""
    if entered is None:
        frame.stack.append(result)
    else:
        machine.frames.insert(0, entered)


def end_call(machine, frame, row):
    value = frame.stack.pop()
    machine.frames.pop(0)
    if not machine.frames:
        machine.state = "finished"
    else:
        machine.frames[0].stack.append(value if frame.made is None else frame.made)


# Functions, classes and variables


def closure(machine, frame, row):
    frame.stack.append(machine.store.make(Closure(row[1], row[2], frame.scope)))


def declare(machine, frame, row):
    frame.scope = (machine.store.make(Variable(frame.stack.pop())), *frame.scope)


def blank(machine, frame, row):
    frame.scope = (machine.store.make(Variable(None)), *frame.scope)


def drop(machine, frame, row):
    frame.scope = frame.scope[row[1]:]


def new_class(machine, frame, row):
    parent = machine.store.at(frame.scope[0]).value
    frame.stack.append(make_class(machine.store, row[1], parent))


def method(machine, frame, row):
    kin, function = frame.take_values(2)
    thing = thing_of(machine, kin)
    if not isinstance(thing, Kin) or not isinstance(thing_of(machine, function), Closure):
        raise ScriptError("KindError", "wrong argument")
    thing.methods[row[1]] = function
    frame.stack.append(kin)


def thing_of(machine, value):
    """Returns the object that a value is, or None."""
    return machine.store.at(value) if isinstance(value, Ref) else None


# Iterators, handlers and exceptions


def begin_iteration(machine, frame, row):
    frame.stack.append(make_cursor(machine.store, frame.stack.pop()))


def next_value(machine, frame, row):
    cursor = machine.store.at(frame.scope[0]).value
    if not isinstance(thing_of(machine, cursor), Cursor):
        raise ScriptError("KindError", "wrong argument")
    found = next_of(machine.store, cursor)
    if found:
        frame.stack.append(found[0])
    else:
        frame.at = row[1]


def enter(machine, frame, row):
    frame.handlers.insert(0, (row[1], frame.scope))


def leave(machine, frame, row):
    frame.handlers.pop(0)


def escape(machine, frame, row):
    _, handlers, variables, index = row
    del frame.handlers[:handlers]
    frame.scope = frame.scope[variables:]
    frame.at = index


def throw(machine, frame, row):
    machine.throw(frame.stack.pop())


ACTIONS = {
    "const": constant, "load": load, "save": save, "pop": pop,
    "negate": operate_on_one, "not": operate_on_one,
    "add": operate_on_two, "sub": operate_on_two, "mul": operate_on_two, "div": operate_on_two,
    "mod": operate_on_two, "eq": operate_on_two, "ne": operate_on_two, "lt": operate_on_two,
    "le": operate_on_two, "gt": operate_on_two, "ge": operate_on_two, "is": operate_on_two,
    "jump": jump, "unless": jump_unless, "both": jump_in_choice, "either": jump_in_choice,
    "list": new_list, "map": new_map, "item": item, "set_item": change_item,
    "field": field, "set_field": change_field, "call": call, "invoke": invoke, "super": call_super,
    "closure": closure, "declare": declare, "blank": blank, "drop": drop,
    "class": new_class, "method": method, "iter": begin_iteration, "next": next_value,
    "enter": enter, "leave": leave, "escape": escape, "raise": throw, "ret": end_call,
}
