"""Executes statements. The functions take what those for expressions take."""

from livequill.values.kinds import is_true
from livequill.values.operators import make_cursor, next_of
from livequill.values.things import Variable


def begin_block(meaning, call, term):
    call.plan(end_scope, (call.names, call.refs))
    call.plan_terms(term[1])


def end_scope(meaning, call, scope):
    """Brings back what was in scope before."""
    call.names, call.refs = scope


def begin_do(meaning, call, term):
    call.plan(do, term)
    call.plan_terms((term[1],))


def do(meaning, call, term):
    call.stack.pop()


def begin_let(meaning, call, term):
    call.plan(let, term)
    call.plan_terms((term[3],))


def let(meaning, call, term):
    declare(meaning, call, term[2], call.stack.pop())


def declare(meaning, call, name, value):
    """Makes a variable and brings it into scope."""
    call.declare(name, meaning.store.make(Variable(value)))


def group(meaning, call, term):
    members = term[1]
    for _, name, _ in reversed(members):
        declare(meaning, call, name, None)
    for member in reversed(members):
        call.plan(end_member, member)
        call.plan_terms((member[2],))


def end_member(meaning, call, member):
    """Assigns a function or a class of a group."""
    variable = meaning.store.at(call.ref_of(member[1]))
    variable.value = call.stack.pop()


def begin_if(meaning, call, term):
    call.plan(branch, term)
    call.plan_terms((term[2],))


def branch(meaning, call, term):
    chosen = term[3] if is_true(call.stack.pop()) else term[4]
    if chosen is not None:
        call.plan_terms((chosen,))


# Loops


def begin_while(meaning, call, term):
    call.guard(term)
    ask(meaning, call, term)


def ask(meaning, call, term):
    """Begins a round of `while` with its condition."""
    call.plan(enter_round, term)
    call.plan_terms((term[2],))


def enter_round(meaning, call, term):
    if is_true(call.stack.pop()):
        call.plan(ask, term)
        call.plan_terms((term[3],))
    else:
        call.leave_guard()


def begin_for(meaning, call, term):
    call.plan(go_through, term)
    call.plan_terms((term[4],))


def go_through(meaning, call, term):
    declare(meaning, call, "", make_cursor(meaning.store, call.stack.pop()))
    call.guard(term)
    call.plan(next_round, term)


def next_round(meaning, call, term):
    call.back_to_guard()
    cursor = meaning.store.at(call.ref_of("")).value
    found = next_of(meaning.store, cursor)
    if found:
        declare(meaning, call, term[3], found[0])
        call.plan(next_round, term)
        call.plan_terms((term[5],))
    else:
        call.leave_guard()


def leave_loop(meaning, call, term):
    """Executes `break`."""
    back_to_loop(call)
    call.leave_guard()


def go_on_in_loop(meaning, call, term):
    """Executes `continue`."""
    back_to_loop(call)
    call.back_to_guard()
    loop = call.guards[-1].term
    call.plan(ask if loop[0] == "while" else next_round, loop)


def back_to_loop(call):
    """Leaves every `try` within the innermost loop."""
    while not call.is_in(("while", "for")):
        call.leave_guard()


# Ends of calls, and exceptions


def begin_return(meaning, call, term):
    call.plan(end_return, term)
    call.plan_terms((term[2],))


def end_return(meaning, call, term):
    meaning.end_call(call.stack.pop())


def begin_throw(meaning, call, term):
    call.plan(end_throw, term)
    call.plan_terms((term[2],))


def end_throw(meaning, call, term):
    meaning.throw(call.stack.pop())


def begin_try(meaning, call, term):
    call.guard(term)
    call.plan(end_try, term)
    call.plan_terms((term[2],))


def end_try(meaning, call, term):
    call.leave_guard()


def catch(meaning, call, value):
    """Goes on behind the innermost `try` with a value that was thrown within it."""
    term = call.guards[-1].term
    call.leave_guard()
    call.stack.clear()
    call.plan(end_scope, (call.names, call.refs))
    declare(meaning, call, term[4], value)
    call.plan_terms((term[5],))


STATEMENTS = {
    "block": begin_block, "do": begin_do, "let": begin_let, "group": group, "if": begin_if,
    "while": begin_while, "for": begin_for, "break": leave_loop, "continue": go_on_in_loop,
    "return": begin_return, "throw": begin_throw, "try": begin_try,
}
