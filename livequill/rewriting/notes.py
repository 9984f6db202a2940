"""Notes on what is suspicious in a program."""

from livequill.rewriting.flow import fixed, has_code, never_ends
from livequill.rewriting.naming import variables_in
from livequill.text.trees import parts_of

# Where a note stands among those with the same offset.
READ_ROW = 0
USED_ROW = 1
VARIABLE_ROW = 2
LANGUAGE_ROW = 3
ALWAYS_ROW = 4
NEVER_ROW = 5
FOLLOWED_ROW = 6


def notes_of(tree):
    """Returns the list of the notes of a program without faults, pairs of an offset and a message."""
    found = []
    for variable in variables_in(tree):
        found.extend(notes_on_variable(variable))
    collect_notes(tree, False, found)
    ordered = sorted(found, key=lambda note: (note[0], note[1]))
    return [(offset, message) for offset, _, message in ordered]


def notes_on_variable(variable):
    """Returns the list of the notes on a variable, tuples of an offset, a row and a message."""
    notes = []
    if not variable.is_used:
        row = READ_ROW if variable.purpose == "read" else USED_ROW
        notes.append((variable.offset, row, f"{variable.name} is never {variable.purpose}"))
    if variable.hides_variable:
        notes.append((variable.offset, VARIABLE_ROW, f"{variable.name} hides a variable"))
    if variable.hides_language:
        notes.append((variable.offset, LANGUAGE_ROW, f"{variable.name} hides a name of the language"))
    return notes


def collect_notes(term, followed, found):
    """Adds the notes on conditions and on what is never executed; the term may be an item that is followed."""
    if term[0] == "block":
        collect_items(term, followed, found)
        return
    if term[0] in ("if", "while"):
        found.extend(notes_on_condition(term))
    if followed and never_ends(term):
        found.append((term[1], FOLLOWED_ROW, "what follows is never executed"))
    for part in parts_of(term):
        collect_notes(part, False, found)


def collect_items(block, followed, found):
    """Adds the notes on the items of a block, which may be an item that is followed itself."""
    coded = [index for index, item in enumerate(block[1]) if has_code(item)]
    last = max(coded, default=-1)
    for index, item in enumerate(block[1]):
        collect_notes(item, followed or index < last, found)


def notes_on_condition(term):
    """Returns the list of the notes on the condition of an `if` or a `while`."""
    value = fixed(term[2])
    if value is None or (value and term[0] == "while"):
        return []
    if value:
        return [(term[1], ALWAYS_ROW, "the condition is always true")]
    return [(term[1], NEVER_ROW, "the condition is never true")]
