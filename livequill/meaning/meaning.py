"""The evaluation of a program by its tree."""

from livequill.errors import ScriptError, Waiting
from livequill.meaning.calls import Call, call_of
from livequill.meaning.expressions import EXPRESSIONS
from livequill.meaning.statements import STATEMENTS, catch
from livequill.names.functions import functions_of
from livequill.values.operators import make_failure
from livequill.values.refs import Ref
from livequill.values.store import Store


class Meaning:
    """The evaluation of a program, which has not begun."""

    def __init__(self, tree, lines):
        self.store = Store(lines)
        self.ended = "going"
        self.thrown = None
        self.functions = {function.number: function for function in functions_of(tree)}
        self.calls = [Call((), (), tree, None)]

    def go_on(self, turns):
        """Evaluates on, at most so many turns, until it is no longer going."""
        for _ in range(turns):
            if self.ended != "going":
                return
            self.turn()

    def turn(self):
        """Does the next piece of work."""
        call = self.calls[-1]
        if not call.work:
            self.end_call(None)
            return
        action, term = call.work.pop()
        try:
            do_work(self, call, action, term)
        except ScriptError as error:
            self.throw(make_failure(self.store, Ref(0), error.kind, error.message))
        except Waiting:
            self.ended = "waiting"

    def follow(self, frame, result):
        """Begins the call of a function with this frame, or goes on with the result of an operation."""
        if frame is None:
            self.calls[-1].stack.append(result)
        else:
            self.calls.append(call_of(self.functions, frame))

    def end_call(self, value):
        """Ends the innermost call with this value."""
        call = self.calls.pop()
        if not self.calls:
            self.ended = "finished"
        else:
            self.calls[-1].stack.append(value if call.made is None else call.made)

    def throw(self, value):
        """Goes on at the innermost `try` that is there, or ends the program."""
        while self.calls:
            call = self.calls[-1]
            while call.guards:
                if call.is_in(("try",)):
                    catch(self, call, value)
                    return
                call.leave_guard()
            self.calls.pop()
        self.thrown = value
        self.ended = "failed"


def do_work(meaning, call, action, term):
    """Does a piece of work: an action, or the beginning of a term."""
    if action is None and term[0] in EXPRESSIONS:
        action = EXPRESSIONS[term[0]]
    elif action is None:
        action = STATEMENTS[term[0]]
    action(meaning, call, term)
