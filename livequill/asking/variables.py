"""The names in scope in a frame, and their variables."""

from livequill.values.written import show

# The iterator of a `for` and the parent of a class are variables, too, but not of the program's own making.
HIDDEN = ("", "super")


def names_of(program, frame):
    """Returns the names in scope before the next instruction of a frame, a tuple."""
    return program.chunks[frame.number].scopes[frame.at]


def variables_of(program, machine, frame):
    """Returns the list of the pairs of a name and a shown value for the variables of a frame."""
    return [
        (name, show(machine.store, machine.store.at(ref).value))
        for name, ref in zip(names_of(program, frame), frame.scope) if name not in HIDDEN
    ]


def variable_of(program, frame, name):
    """Returns the innermost variable with this name, or None."""
    names = names_of(program, frame)
    return frame.scope[names.index(name)] if name in names else None
