"""Translates statements. Each function takes the coder and a term."""

from livequill.code.coder import Loop
from livequill.code.expressions import code_expression


def code_statement(coder, term):
    """Adds the code of a statement, which leaves the names in scope as they were."""
    action = STATEMENTS[term[0]]
    action(coder, term)


def code_block(coder, term):
    """Adds the code of a block. What an item brings into scope is there up to the end."""
    brought = []
    for item in term[1]:
        before = len(coder.scope)
        code_statement(coder, item)
        brought.append(len(coder.scope) - before)
    for many in reversed(brought):
        if many > 0:
            coder.drop(many)


def code_do(coder, term):
    code_expression(coder, term[1])
    coder.emit(("pop",))


def code_let(coder, term):
    code_expression(coder, term[3])
    coder.bring(("declare",), term[2])


def code_group(coder, term):
    for _, name, _ in reversed(term[1]):
        coder.bring(("blank",), name)
    for _, name, member in term[1]:
        code_expression(coder, member)
        coder.emit(("save", coder.scope.index(name)))
        coder.emit(("pop",))


def code_if(coder, term):
    _, _, condition, chosen, other = term
    code_expression(coder, condition)
    start = coder.emit(("unless", None))
    code_statement(coder, chosen)
    behind = coder.emit(("jump", None))
    coder.lead_here(start)
    if other is not None:
        code_statement(coder, other)
    coder.lead_here(behind)


# Loops


def code_while(coder, term):
    _, _, condition, body = term
    loop = begin_loop(coder)
    code_expression(coder, condition)
    loop.breaks.append(coder.emit(("unless", None)))
    code_statement(coder, body)
    end_loop(coder)


def code_for(coder, term):
    _, offset, _, name, whole, body = term
    code_expression(coder, whole)
    coder.emit(("iter", coder.told(offset)))
    coder.bring(("declare",), "")
    loop = begin_loop(coder)
    loop.breaks.append(coder.emit(("next", None)))
    coder.bring(("declare",), name)
    code_statement(coder, body)
    coder.drop(1)
    end_loop(coder)
    coder.drop(1)


def begin_loop(coder):
    """Begins the rounds of a loop at the next instruction."""
    loop = Loop(coder.here(), len(coder.scope), coder.entered)
    coder.loops.append(loop)
    return loop


def end_loop(coder):
    """Goes on with the next round, and leads all that leaves the loop behind it."""
    loop = coder.loops.pop()
    coder.emit(("jump", loop.again))
    for at in loop.breaks:
        coder.lead_here(at)


def code_break(coder, term):
    loop = coder.loops[-1]
    loop.breaks.append(coder.emit(escape(coder, loop, None)))


def code_continue(coder, term):
    loop = coder.loops[-1]
    coder.emit(escape(coder, loop, loop.again))


def escape(coder, loop, index):
    """Returns the instruction that goes on at an index with what is in scope at the rounds of a loop."""
    return ("escape", coder.entered - loop.entered, len(coder.scope) - loop.variables, index)


# Ends of calls, and exceptions


def code_return(coder, term):
    code_expression(coder, term[2])
    coder.emit(("ret",))


def code_throw(coder, term):
    code_expression(coder, term[2])
    coder.emit(("raise", coder.told(term[1])))


def code_try(coder, term):
    _, _, body, _, name, handler = term
    start = coder.emit(("enter", None))
    coder.entered += 1
    code_statement(coder, body)
    coder.emit(("leave",))
    coder.entered -= 1
    behind = coder.emit(("jump", None))
    coder.lead_here(start)
    coder.bring(("declare",), name)
    code_statement(coder, handler)
    coder.drop(1)
    coder.lead_here(behind)


STATEMENTS = {
    "block": code_block, "do": code_do, "let": code_let, "group": code_group, "if": code_if,
    "while": code_while, "for": code_for, "break": code_break, "continue": code_continue,
    "return": code_return, "throw": code_throw, "try": code_try,
}
