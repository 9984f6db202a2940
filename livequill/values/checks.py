"""What operations check: sizes of results, places, numbers and kinds of arguments."""

from livequill.errors import ScriptError
from livequill.values.kinds import is_key, kind_of

MOST_HELD = 1000
# Every integer with fewer bits is in its bounds.
DOUBTFUL_BITS = 997


def check_size(size):
    """Refuses a text, a list, a map or an instance that would be as large as this, if it may not be."""
    if size > MOST_HELD:
        raise ScriptError("SizeError", "too large")


def is_bounded(number):
    """Tells whether an integer is not too large."""
    # Most are far from the bound, which costs more to work out than to count bits.
    return number.bit_length() < DOUBTFUL_BITS or abs(number) < (10 ** 60) ** 5


def checked_integer(number):
    """Returns the integer, if it is not too large."""
    if not is_bounded(number):
        raise ScriptError("OverflowError", "the integer is too large")
    return number


def check_place(index, length):
    """Refuses an index of no part of what has this length."""
    if not 0 <= index < length:
        raise ScriptError("IndexError", "index out of range")


def check_gap(index, length):
    """Refuses an index of no gap between the parts of what has this length."""
    check_place(index, length + 1)


def check_gaps(start, stop, length):
    """Refuses two indexes that are not two gaps in their order."""
    check_gap(stop, length)
    check_gap(start, stop)


def check_count(values, wanted):
    """Refuses arguments if there are not so many of them."""
    if len(values) != wanted:
        raise ScriptError("ArityError", f"expected {wanted} arguments, got {len(values)}")


def check_arguments(store, values, kinds):
    """Refuses arguments that are not as many as these kinds, or that do not have them."""
    check_count(values, len(kinds))
    for value, kind in zip(values, kinds):
        check_kind(store, value, kind)


def check_kind(store, value, kind):
    """Refuses an argument that does not have this kind; "any" is every kind, "key" what can be a key."""
    if kind == "any" or kind == kind_of(store, value):
        return
    if kind == "key" and is_key(value):
        return
    raise ScriptError("KindError", "wrong argument")


def check_alike(store, values):
    """Refuses values that are neither all integers nor all texts."""
    for value in values:
        if kind_of(store, value) not in ("integer", "text"):
            raise ScriptError("KindError", "wrong argument")
        check_kind(store, value, kind_of(store, values[0]))


def refuse_field(store, x, name):
    """Raises the error of a field or method that a value does not have."""
    raise ScriptError("FieldError", f"{kind_of(store, x)} has no field {name}")
