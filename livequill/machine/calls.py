"""What is called by a call, and what a call does.

Each function here that makes a call is told how many calls are in progress, and returns
a pair: the frame of the function that was called, and None; or None, and the result of
an operation. An error is a ScriptError, and a line of input that is not there is Waiting.
"""

from livequill.errors import ScriptError
from livequill.machine.frames import Frame
from livequill.values.calls import call_builtin, call_method
from livequill.values.checks import check_arguments, check_count, refuse_field
from livequill.values.kinds import is_below, kind_of, method_of
from livequill.values.operators import make_failure, set_fields
from livequill.values.refs import Builtin, Ref
from livequill.values.things import Bound, Closure, Instance, Kin, Variable

MOST_CALLS = 60
ERROR = 0


def call_value(store, called, values, calls):
    """Calls a value with arguments."""
    if isinstance(called, Builtin):
        return None, call_builtin(store, called.name, values)
    thing = store.at(called) if isinstance(called, Ref) else None
    if isinstance(thing, Closure):
        check_call(store, called, 0, values, calls)
        return frame_of(store, called, values), None
    if isinstance(thing, Bound):
        return call_for(store, thing.owner, thing.function, values, calls)
    if isinstance(thing, Kin):
        return call_class(store, called, values, calls)
    raise ScriptError("KindError", f"cannot call {kind_of(store, called)}")


def call_named(store, x, name, values, calls):
    """Calls what a value has by this name: a field, or a method."""
    if kind_of(store, x) != "instance":
        return None, call_method(store, x, name, values)
    thing = store.at(x)
    if name in thing.named:
        return call_value(store, thing.named[name], values, calls)
    method = method_of(store, thing.owner, name)
    if method is None:
        refuse_field(store, x, name)
    return call_for(store, x, method, values, calls)


def call_parent(store, this, parent, name, values, calls):
    """Calls a method of a parent for an instance."""
    if kind_of(store, this) != "instance" or kind_of(store, parent) not in ("null", "class"):
        raise ScriptError("KindError", "wrong argument")
    if parent is None:
        raise ScriptError("KindError", "there is no parent class")
    method = method_of(store, parent, name)
    if method is not None:
        return call_for(store, this, method, values, calls)
    if name != "init" or not is_below(store, parent, Ref(ERROR)):
        refuse_field(store, this, name)
    kind, message = error_texts(store, values)
    set_fields(store, this, (("kind", kind), ("message", message)))
    return None, None


def call_for(store, instance, function, values, calls):
    """Calls a function with an instance in front of the arguments."""
    check_call(store, function, 1, values, calls)
    return frame_of(store, function, [instance, *values]), None


def call_class(store, kin, values, calls):
    """Calls a class, which makes an instance."""
    init = None if kin.number == ERROR else method_of(store, kin, "init")
    if init is not None:
        # The instance comes behind the errors of the call, and ahead of its variables.
        check_call(store, init, 1, values, calls)
        instance = store.make(Instance(kin))
        frame = frame_of(store, init, [instance, *values])
        frame.made = instance
        return frame, None
    if is_below(store, kin, Ref(ERROR)):
        kind, message = error_texts(store, values)
        return None, make_failure(store, kin, kind, message)
    check_count(values, 0)
    return None, store.make(Instance(kin))


def error_texts(store, values):
    """Returns the arguments from which an error gets its fields."""
    check_arguments(store, values, ("text", "text"))
    return values


def check_call(store, function, ahead, values, calls):
    """Refuses a call with so many values ahead of the arguments, if one cannot be made."""
    check_count(values, store.at(function).wanted - ahead)
    if calls >= MOST_CALLS:
        raise ScriptError("RecursionError", "too many calls")


def frame_of(store, function, values):
    """Returns the frame of a function with new variables for these values."""
    closure = store.at(function)
    variables = [store.make(Variable(value)) for value in values]
    return Frame(closure.number, (*variables, *closure.scope))
