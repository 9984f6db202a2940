"""The faults of a tree."""

from livequill.errors import InvalidText
from livequill.names.functions import placed_parts
from livequill.names.language import is_of_language
from livequill.text.parser import parse

MOST_ARGUMENTS = 8
MOST_PARAMETERS = 8
MOST_FUNCTIONS = 40

# Where a fault stands among those with the same offset.
UNDECLARED_ROW = 0
THIS_ROW = 1
SUPER_ROW = 2
LANGUAGE_ROW = 3
ARGUMENTS_ROW = 4
METHODS_ROW = 5
PARAMETERS_ROW = 6
TWICE_ROW = 7
MEMBERS_ROW = 8
BREAK_ROW = 9
CONTINUE_ROW = 10
RETURN_ROW = 11
INIT_ROW = 12
FUNCTIONS_ROW = 13

# What is around a place: the program alone, a method "init" itself, or another function.
IN_PROGRAM = 0
IN_INIT = 1
IN_FUNCTION = 2


def read_program(text):
    """Returns the tree of a program. Raises InvalidText with the first fault of the text."""
    tree = parse(text)
    faults = faults_of(tree)
    if faults:
        offset, message = faults[0]
        raise InvalidText(offset, message)
    return tree


def faults_of(program):
    """Returns the list of the faults of a tree, tuples of an offset and a message."""
    return faults_within(program, (), IN_PROGRAM)


def faults_in(term, scope):
    """Returns the list of the faults of an expression with these names in scope."""
    return faults_within(term, scope, IN_FUNCTION)


def faults_within(term, scope, home):
    """Returns the faults of a term that stands in a function of this sort, in no loop."""
    found = []
    collect_faults(term, Place(scope, home, False), found)
    ordered = sorted(found, key=lambda fault: (fault[0], fault[1]))
    return [(offset, message) for offset, _, message in ordered]


class Place:
    """Where a term stands: names in scope, what is around it, and whether a loop is."""

    def __init__(self, scope, home, looped):
        self.scope = scope
        self.home = home
        self.looped = looped


def collect_faults(term, place, found):
    """Adds the faults of a term and of all terms in it, as tuples of an offset, a row and a message."""
    if term[0] in CHECKS:
        action = CHECKS[term[0]]
        found.extend(action(term, place))
    for part, scope, title in placed_parts(term, place.scope):
        home = place.home
        if part[0] == "function":
            home = home_of(title)
        looped = term[0] in ("while", "for") or (term[0] != "function" and place.looped)
        collect_faults(part, Place(scope, home, looped), found)


def home_of(title):
    """Returns what sort of function has this title. Only titles of methods have a dot."""
    return IN_INIT if title.endswith(".init") else IN_FUNCTION


def repeated(names):
    """Returns a list that tells of each name whether an earlier one is the same."""
    return [name in names[:index] for index, name in enumerate(names)]


# The checks of terms. Each returns a list of tuples of an offset, a row and a message.


def check_name(term, place):
    _, offset, name = term
    if name in place.scope:
        return []
    if name == "this":
        return [(offset, THIS_ROW, "this outside of a method")]
    if is_of_language(name):
        return []
    return [(offset, UNDECLARED_ROW, f"{name} is not declared")]


def check_assign(term, place):
    _, offset, name, _ = term
    if name in place.scope:
        return []
    if is_of_language(name):
        return [(offset, LANGUAGE_ROW, f"{name} cannot be assigned")]
    return [(offset, UNDECLARED_ROW, f"{name} is not declared")]


def check_super(term, place):
    faults = check_arguments(term, place)
    if "this" not in place.scope or "super" not in place.scope:
        faults.append((term[1], SUPER_ROW, "super outside of a method"))
    return faults


def check_arguments(term, place):
    """Checks a call of any kind; its arguments stand at its end."""
    if len(term[-1]) <= MOST_ARGUMENTS:
        return []
    return [(term[1], ARGUMENTS_ROW, f"more than {MOST_ARGUMENTS} arguments")]


def check_class(term, place):
    methods = term[4]
    again = repeated([name for name, _ in methods])
    return [
        (function[1], METHODS_ROW, f"{name} is declared twice")
        for (name, function), twice in zip(methods, again) if twice
    ]


def check_function(term, place):
    _, offset, number, params, _ = term
    faults = []
    if number == MOST_FUNCTIONS + 1:
        faults.append((offset, FUNCTIONS_ROW, f"more than {MOST_FUNCTIONS} functions"))
    if len([name for name in params if name != "this"]) > MOST_PARAMETERS:
        faults.append((offset, PARAMETERS_ROW, f"more than {MOST_PARAMETERS} parameters"))
    for name, twice in zip(params, repeated(params)):
        if twice:
            faults.append((offset, TWICE_ROW, f"{name} is declared twice"))
    return faults


def check_group(term, place):
    again = repeated([member[1] for member in term[1]])
    return [
        (member[0], MEMBERS_ROW, f"{member[1]} is declared twice")
        for member, twice in zip(term[1], again) if twice
    ]


def check_break(term, place):
    if place.looped:
        return []
    return [(term[1], BREAK_ROW, "break outside of a loop")]


def check_continue(term, place):
    if place.looped:
        return []
    return [(term[1], CONTINUE_ROW, "continue outside of a loop")]


def check_return(term, place):
    _, offset, value = term
    if place.home == IN_PROGRAM:
        return [(offset, RETURN_ROW, "return outside of a function")]
    if place.home == IN_INIT and value != ("null",):
        return [(offset, INIT_ROW, "init returns no value")]
    return []


CHECKS = {
    "name": check_name, "assign": check_assign, "super": check_super,
    "call": check_arguments, "invoke": check_arguments,
    "class": check_class, "function": check_function, "group": check_group,
    "break": check_break, "continue": check_continue, "return": check_return,
}
