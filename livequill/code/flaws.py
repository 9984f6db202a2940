"""The flaws of code: what it would take that is not there."""

# How many values each instruction takes from the stack and puts there, apart
# from the arguments and parts that it counts itself.
VALUES = {
    "const": (0, 1), "load": (0, 1), "save": (1, 1), "pop": (1, 0), "negate": (1, 1), "not": (1, 1),
    "add": (2, 1), "sub": (2, 1), "mul": (2, 1), "div": (2, 1), "mod": (2, 1), "eq": (2, 1), "ne": (2, 1),
    "lt": (2, 1), "le": (2, 1), "gt": (2, 1), "ge": (2, 1), "is": (2, 1),
    "jump": (0, 0), "unless": (1, 0), "both": (1, 0), "either": (1, 0), "list": (0, 1), "map": (0, 1),
    "item": (2, 1), "set_item": (3, 1), "field": (1, 1), "set_field": (2, 1),
    "call": (1, 1), "invoke": (1, 1), "super": (2, 1), "closure": (0, 1),
    "declare": (1, 0), "blank": (0, 0), "drop": (0, 0), "class": (0, 1), "method": (2, 1),
    "iter": (1, 1), "next": (0, 1), "enter": (0, 0), "leave": (0, 0), "escape": (0, 0),
    "raise": (1, 0), "ret": (1, 0),
}
# Where the instructions that take further values count them.
COUNTS = {"list": 1, "map": 1, "call": 1, "invoke": 2, "super": 2}
ENDS = ("raise", "ret")
LEAPS = ("jump", "escape")
BRANCHES = ("jump", "unless", "both", "either", "next", "enter", "escape")


def flaws_of(chunks):
    """Returns the list of the flaws, tuples of the number of a function, an index and a message."""
    by_number = {}
    flaws = []
    for chunk in chunks:
        if chunk.number in by_number:
            flaws.append((chunk.number, 0, "two functions have this number"))
        else:
            by_number[chunk.number] = chunk
    if 0 not in by_number:
        flaws.append((0, 0, "no such function"))
    elif by_number[0].wanted != 0:
        flaws.append((0, 0, "another number of parameters"))
    else:
        flaws.extend(flaws_of_functions(by_number))
    return flaws


def flaws_of_functions(by_number):
    """Checks the functions that are made, beginning with the program, and returns the list of the flaws."""
    flaws = []
    checked = {}
    queue = [(0, 0)]
    # What a function makes comes behind all that is to be checked already.
    at = 0
    while at < len(queue):
        number, variables = queue[at]
        at += 1
        if number not in checked:
            checked[number] = variables
            flaw, made = check_function(by_number, number, variables)
            flaws.extend(flaw)
            queue.extend(made)
        elif checked[number] != variables:
            flaws.append((number, 0, "made in different scopes"))
    return flaws


def check_function(by_number, number, variables):
    """Checks a function that begins with so many variables.

    Returns a list of its flaw, if it has one, and the list of the functions that it makes,
    if it has none, as pairs of a number and how many variables they begin with.

    What is known where an instruction is reached is a tuple, its shape: how many values
    are on the stack, how many variables are in scope, and the handlers, the innermost
    first, as pairs of an index and how many variables were in scope.
    """
    rows = by_number[number].rows
    shapes = {}
    reached = [(0, (0, variables, ()))]
    while reached:
        index, shape = reached.pop()
        if index >= len(rows):
            return [(number, index, "the code ends here")], []
        if index in shapes and shapes[index] != shape:
            return [(number, index, "reached with different shapes")], []
        if index not in shapes:
            message = fault_of(rows[index], shape, by_number)
            if message is not None:
                return [(number, index, message)], []
            shapes[index] = shape
            reached.extend(following(rows[index], index, shape))
    return [], functions_made(rows, shapes)


def functions_made(rows, shapes):
    """Returns the list of the functions that instructions with a shape make, in the order of the shapes."""
    return [
        (rows[index][1], rows[index][2] + variables)
        for index, (_, variables, _) in shapes.items() if rows[index][0] == "closure"
    ]


def fault_of(row, shape, by_number):
    """Returns what is wrong with an instruction that is reached with this shape, or None."""
    values, variables, handlers = shape
    if row[0] == "map" and row[1] % 2 == 1:
        return "an odd number of values"
    if values < values_taken(row):
        return "too few values"
    if len(handlers) < handlers_left(row):
        return "too few handlers"
    if variables < variables_needed(row):
        return "too few variables"
    if row[0] == "closure" and row[1] not in by_number:
        return "no such function"
    if row[0] == "closure" and row[2] != by_number[row[1]].wanted:
        return "another number of parameters"
    return None


def values_taken(row):
    """Returns how many values an instruction takes from the stack."""
    counted = row[COUNTS[row[0]]] if row[0] in COUNTS else 0
    return VALUES[row[0]][0] + counted


def handlers_left(row):
    """Returns how many handlers an instruction leaves."""
    if row[0] == "escape":
        return row[1]
    return 1 if row[0] == "leave" else 0


def variables_ended(row):
    """Returns of how many variables an instruction ends the scope."""
    if row[0] == "escape":
        return row[2]
    return row[1] if row[0] == "drop" else 0


def variables_needed(row):
    """Returns how many variables must be in scope for an instruction."""
    if row[0] in ("load", "save"):
        return row[1] + 1
    return 1 if row[0] in ("class", "next") else variables_ended(row)


def following(row, index, shape):
    """Returns the list of what is reached behind an instruction, pairs of an index and a shape."""
    if row[0] in ENDS:
        return []
    found = []
    if row[0] in BRANCHES:
        found.append((row[-1], shape_aside(row, shape)))
    if row[0] not in LEAPS:
        found.append((index + 1, shape_behind(row, shape)))
    return found


def shape_behind(row, shape):
    """Returns the shape after an instruction."""
    values, variables, handlers = shape
    values += VALUES[row[0]][1] - values_taken(row)
    handlers = handlers[handlers_left(row):]
    if row[0] == "enter":
        handlers = ((row[1], variables), *handlers)
    made = 1 if row[0] in ("declare", "blank") else 0
    return values, variables - variables_ended(row) + made, handlers


def shape_aside(row, shape):
    """Returns the shape at the index that stands in an instruction."""
    if row[0] == "enter":
        return 1, shape[1], shape[2]
    if row[0] in ("both", "either", "next"):
        return shape
    return shape_behind(row, shape)
