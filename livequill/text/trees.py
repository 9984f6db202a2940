"""The terms of a tree: what they consist of."""

# What stands behind the kind of a term, in order. An "option" is a term or
# None; "pairs" are pairs of terms; "members" and "methods" are those of groups
# and classes; everything "plain" is no term and no offset.
SHAPES = {
    "null": (),
    "bool": ("plain",),
    "int": ("plain",),
    "text": ("plain",),
    "name": ("offset", "plain"),
    "assign": ("offset", "plain", "term"),
    "set_index": ("offset", "term", "term", "term"),
    "set_field": ("offset", "term", "plain", "term"),
    "unary": ("offset", "plain", "term"),
    "binary": ("offset", "plain", "term", "term"),
    "both": ("term", "term"),
    "either": ("term", "term"),
    "list": ("terms",),
    "map": ("offset", "pairs"),
    "index": ("offset", "term", "term"),
    "field": ("offset", "term", "plain"),
    "call": ("offset", "term", "terms"),
    "invoke": ("offset", "term", "plain", "terms"),
    "super": ("offset", "plain", "terms"),
    "function": ("offset", "plain", "plain", "term"),
    "block": ("terms",),
    "let": ("offset", "plain", "term"),
    "group": ("members",),
    "class": ("offset", "plain", "option", "methods"),
    "do": ("term",),
    "if": ("offset", "term", "term", "option"),
    "while": ("offset", "term", "term"),
    "for": ("offset", "offset", "plain", "term", "term"),
    "break": ("offset",),
    "continue": ("offset",),
    "return": ("offset", "term"),
    "throw": ("offset", "term"),
    "try": ("offset", "term", "offset", "plain", "term"),
}


def parts_of(term):
    """Returns the list of the terms that a term directly consists of, in the order of the text."""
    parts = []
    for shape, held in zip(SHAPES[term[0]], term[1:]):
        parts.extend(terms_in(shape, held))
    return parts


def terms_in(shape, held):
    """Returns the list of the terms in what stands in a place of this shape."""
    if shape == "term":
        return [held]
    if shape == "option" and held is not None:
        return [held]
    if shape == "terms":
        return list(held)
    if shape == "pairs":
        return [part for pair in held for part in pair]
    if shape == "members":
        return [member[2] for member in held]
    if shape == "methods":
        return [method[1] for method in held]
    return []


def with_parts(term, action):
    """Returns the term with what a function makes of each of the terms that it directly consists of."""
    held = [term[0]]
    for shape, part in zip(SHAPES[term[0]], term[1:]):
        held.append(rebuilt(shape, part, action))
    return tuple(held)


def rebuilt(shape, held, action):
    """Returns what stands in a place of this shape, with what a function makes of the terms in it."""
    if shape == "term" or (shape == "option" and held is not None):
        return action(held)
    if shape == "terms":
        return tuple([action(part) for part in held])
    if shape == "pairs":
        return tuple([(action(key), action(value)) for key, value in held])
    if shape == "members":
        return tuple([(offset, name, action(member)) for offset, name, member in held])
    if shape == "methods":
        return tuple([(name, action(method)) for name, method in held])
    return held


def without_offsets(term):
    """Returns the term with 0 in place of all offsets."""
    inner = with_parts(term, without_offsets)
    held = [bare(shape, part) for shape, part in zip(SHAPES[inner[0]], inner[1:])]
    return (inner[0], *held)


def bare(shape, held):
    """Returns what stands in a place of this shape, without the offsets that are no part of a term in it."""
    if shape == "offset":
        return 0
    if shape == "members":
        return tuple([(0, name, member) for _, name, member in held])
    return held
