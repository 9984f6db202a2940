"""Calls in progress, as the meaning of a program has them."""


class Call:
    """A call in progress: the names in scope with their variables, and the work that is left in it.

    Work is a tuple of an action and what it needs; what comes last is done next. The
    action None is the evaluation or execution of a term.
    """

    def __init__(self, names, refs, body, made):
        self.names = names
        self.refs = refs
        self.made = made
        self.stack = []
        self.work = [(None, body)]
        self.guards = []

    def plan(self, action, term):
        """Puts an action ahead of all work that is left."""
        self.work.append((action, term))

    def plan_terms(self, terms):
        """Puts the evaluation of terms, one after another, ahead of all work that is left."""
        for term in reversed(terms):
            self.work.append((None, term))

    def ref_of(self, name):
        """Returns the innermost variable with this name, or None."""
        if name in self.names:
            return self.refs[self.names.index(name)]
        return None

    def declare(self, name, ref):
        """Brings a variable into scope as the innermost one."""
        self.names = (name, *self.names)
        self.refs = (ref, *self.refs)

    def take_values(self, many):
        """Takes so many values away, and returns their list."""
        start = len(self.stack) - many
        found = self.stack[start:]
        del self.stack[start:]
        return found

    def guard(self, term):
        """Begins a loop or a `try`: what is in scope now is in scope again where it is gone on with."""
        self.guards.append(Guard(term, len(self.work), self.names, self.refs))

    def back_to_guard(self):
        """Leaves all work within the innermost loop or `try`."""
        guard = self.guards[-1]
        del self.work[guard.height:]
        self.names = guard.names
        self.refs = guard.refs

    def leave_guard(self):
        """Ends the innermost loop or `try`, with all work within it."""
        self.back_to_guard()
        guard = self.guards.pop()
        if guard.term[0] == "for":
            # The variable of the iterator is in scope in the loop alone.
            self.names = self.names[1:]
            self.refs = self.refs[1:]

    def is_in(self, kinds):
        """Tells whether the innermost loop or `try` is of one of these kinds."""
        return self.guards[-1].term[0] in kinds


class Guard:
    """A loop or a `try` that was begun: how much work was left, and what was in scope."""

    def __init__(self, term, height, names, refs):
        self.term = term
        self.height = height
        self.names = names
        self.refs = refs


def call_of(functions, frame):
    """Returns the call in progress for a frame at its beginning; the functions stand by their numbers."""
    function = functions[frame.number]
    return Call((*function.params, *function.around), frame.scope, function.body, frame.made)
