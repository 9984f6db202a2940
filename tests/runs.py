"""Helpers of the tests that run programs: by their meaning, by the machine, and by both."""

from livequill.asking.program import Program
from livequill.meaning.meaning import Meaning
from livequill.names.faults import read_program
from livequill.text.trees import parts_of
from stores import snapshot, told
from livequill.values.written import write_value

MANY = 10 ** 7


def terms_in(tree):
    """How many terms a tree has."""
    level, many = [tree], 0
    while level:
        many += len(level)
        level = [part for term in level for part in parts_of(term)]
    return many


def meant(text, *lines):
    """The evaluation of a program after it has ended."""
    meaning = Meaning(read_program(text), list(lines))
    meaning.go_on(MANY)
    return meaning


def output_of(text, *lines):
    """The lines that a program prints; it must finish."""
    meaning = meant(text, *lines)
    failure = None
    if meaning.ended == "failed":
        failure = told_failure(meaning.store, meaning.thrown)
    assert meaning.ended == "finished", (meaning.ended, failure, meaning.store.output)
    return meaning.store.output


def failure_of(text, *lines):
    """What a program fails with: the kind and the message of an error, or the written form of another value."""
    meaning = meant(text, *lines)
    assert meaning.ended == "failed", (meaning.ended, meaning.store.output)
    return told_failure(meaning.store, meaning.thrown)


def told_failure(store, value):
    thing = told(store.at(value)) if hasattr(value, "number") else None
    if thing is not None and thing[0] == "Instance":
        named = store.at(value).named
        return named.get("kind"), named.get("message")
    return write_value(store, value, 1000)


def made_by(text, *lines):
    """The objects that a program makes, in order, without the class Error: kinds of objects and what they hold."""
    return [told_shortly(thing) for thing in meant(text, *lines).store.things[1:]]


def told_shortly(thing):
    """An object as a kind, and numbers or values."""
    kind = thing.__class__.__name__
    fields = {
        "Parts": lambda: tuple(thing.held), "Table": lambda: tuple(thing.pairs()),
        "Instance": lambda: (thing.owner, *thing.named.items()), "Kin": lambda: (thing.name, thing.parent),
        "Closure": lambda: (thing.number, thing.wanted, thing.scope), "Bound": lambda: (thing.owner, thing.function),
        "Variable": lambda: (thing.value,), "Cursor": lambda: tuple(thing.rest),
    }
    return (kind, *fields[kind]())


def agreement(text, *lines, most=MANY):
    """Runs a program by its meaning and by the machine; both must come to the same. Returns the machine."""
    program = Program(text)
    machine = program.start(lines)
    machine.run(most)
    if machine.status() == "running":
        return machine
    meaning = Meaning(program.tree, list(lines))
    bound = (machine.steps + 2) * (4 * terms_in(program.tree) + 20)
    meaning.go_on(bound)
    expected = {"finished": "finished", "failed": "failed", "waiting": "waiting"}[machine.status()]
    assert meaning.ended == expected, (text, meaning.ended, expected, machine.steps)
    assert repr(meaning.thrown) == repr(machine.thrown), text
    assert snapshot(meaning.store) == snapshot(machine.store), text
    return machine
