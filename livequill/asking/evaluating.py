"""Evaluates expressions in the scope of a frame."""

from livequill.asking.places import told
from livequill.asking.variables import names_of
from livequill.code.translate import translate_expression
from livequill.errors import InvalidText
from livequill.machine.frames import Frame
from livequill.machine.machine import Machine
from livequill.names.faults import MOST_FUNCTIONS, faults_in
from livequill.text.parser import parse_expression
from livequill.values.things import Variable
from livequill.values.written import show

MOST_STEPS = 2000


def evaluate(program, machine, frame, text):
    """Returns how an expression ends in the scope of a frame, and its value. Raises InvalidText."""
    names = names_of(program, frame)
    number = len(program.functions)
    term = read_expression(text, names, number + 1)
    trial = Machine([*program.chunks, *translate_expression(term, names, number)], [])
    # All that the expression changes is in a store of its own.
    trial.store = machine.store.fork()
    answer = trial.store.make(Variable(None))
    trial.frames = [Frame(number, (answer, *frame.scope))]
    made = trial.run(MOST_STEPS)
    if trial.state == "finished":
        return "finished", show(trial.store, trial.store.at(answer).value)
    if trial.state == "failed":
        return "failed", told(trial.store, trial.thrown)
    status = "waiting" if made < MOST_STEPS else "running"
    return status, None


def read_expression(text, names, first):
    """Returns the term of an expression with these names in scope, whose functions are numbered from `first` on."""
    term = parse_expression(text, first=first)
    # However many functions the program has, they leave room for those of an expression.
    allowed = f"more than {MOST_FUNCTIONS} functions"
    faults = [fault for fault in faults_in(term, names) if fault[1] != allowed]
    if faults:
        offset, message = faults[0]
        raise InvalidText(offset, message)
    return term
