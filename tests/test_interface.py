"""What the interface lists is defined where it is listed."""

import ast
import importlib
import unittest
from pathlib import Path

ROOT = Path(__file__).resolve().parent.parent

FUNCTIONS = {
    "text.tokens": {"tokens_of": ["text"]},
    "text.parser": {"parse": ["text"], "parse_expression": ["text", "first"]},
    "text.trees": {"parts_of": ["term"], "without_offsets": ["term"]},
    "text.printer": {"printed": ["program"], "printed_expression": ["term"]},
    "names.functions": {"functions_of": ["program"], "functions_in": ["term", "around"],
                        "scope_after": ["item", "scope"]},
    "names.language": {"is_of_language": ["name"]},
    "names.faults": {"faults_of": ["program"], "faults_in": ["term", "scope"], "read_program": ["text"]},
    "names.places": {"place_of": ["text", "offset"], "changed": ["text", "start", "stop", "new"]},
    "values.kinds": {"kind_of": ["store", "value"], "is_true": ["value"], "equal": ["x", "y"], "is_key": ["value"],
                     "is_below": ["store", "kin", "other"], "method_of": ["store", "kin", "name"]},
    "values.operators": {
        "unary": ["store", "operator", "x"], "binary": ["store", "operator", "x", "y"],
        "get_item": ["store", "x", "i"], "set_item": ["store", "x", "i", "value"],
        "make_list": ["store", "values"], "make_map": ["store", "pairs"],
        "get_field": ["store", "x", "name"], "set_field": ["store", "x", "name", "value"],
        "make_class": ["store", "name", "parent"], "make_cursor": ["store", "x"], "next_of": ["store", "ref"],
        "make_error": ["store", "error"],
    },
    "values.calls": {"call_builtin": ["store", "name", "values"], "call_method": ["store", "x", "name", "values"]},
    "values.written": {"write_value": ["store", "value", "most"], "text_of": ["store", "value", "most"],
                       "show": ["store", "value"]},
    "code.translate": {"translate": ["tree"], "translate_expression": ["term", "scope", "number"]},
    "code.written": {"write_code": ["chunks"]},
    "code.reading": {"read_code": ["text"]},
    "code.flaws": {"flaws_of": ["chunks"]},
    "asking.places": {
        "told_offset": ["row"], "next_row": ["machine", "frame"], "next_line": ["program", "machine"],
        "places_of": ["program", "machine"], "failure_of": ["program", "machine"], "told": ["store", "value"],
    },
    "asking.variables": {
        "names_of": ["program", "frame"], "variables_of": ["program", "machine", "frame"],
        "variable_of": ["program", "frame", "name"],
    },
    "asking.running": {"run_on": ["program", "machine", "lines", "mode", "most"]},
    "asking.evaluating": {"evaluate": ["program", "machine", "frame", "text"]},
    "asking.searches": {
        "changes_of": ["program", "lines", "count", "ref"], "visits_of": ["program", "lines", "count", "line"],
        "printed_by": ["program", "lines", "count", "index"], "profile_of": ["program", "lines", "count"],
        "coverage_of": ["program", "lines", "count"], "trace_of": ["program", "lines", "first", "last"],
    },
    "live.functions": {"changed_functions": ["old", "new"]},
    "live.comparing": {"preview": ["live", "start", "stop", "new"], "blame": ["live", "index"]},
    "live.saved": {"save_live": ["live"], "load_live": ["text"]},
    "heap.objects": {"children_of": ["store", "number"], "roots_of": ["machine"], "sort_of": ["store", "number"],
                     "size_of": ["store", "number"]},
    "heap.reach": {"reached_from": ["store", "numbers"], "lost_objects": ["machine"], "way_to": ["machine", "number"],
                   "counts_of": ["store"]},
    "rewriting.notes": {"notes_of": ["tree"]}, "rewriting.simpler": {"simpler": ["tree"]},
    "rewriting.build": {"build": ["tree"]},
}
CLASSES = {
    "errors": {
        "LivequillError": [], "InvalidText": [], "InvalidCode": [], "ScriptError": [], "Waiting": [],
        "InvalidOffset": [], "InvalidCount": [], "InvalidLine": [], "InvalidMode": [], "NoSuchCall": [],
        "NoSuchVariable": [], "NoSuchOutput": [], "TooLong": [], "TooManyLines": [], "InvalidSave": [],
    },
    "names.functions": {"Function": []},
    "values.refs": {"Ref": ["__eq__"], "Builtin": ["__eq__"]},
    "values.things": {
        "Parts": [], "Table": ["has", "value_of", "put", "take_out", "pairs", "many"], "Instance": [], "Kin": [],
        "Closure": [], "Bound": [], "Variable": [], "Cursor": [],
    },
    "values.store": {"Store": ["make", "at", "fork"]},
    "code.chunks": {"Chunk": ["__eq__"]},
    "meaning.meaning": {"Meaning": ["go_on"]},
    "machine.frames": {"Frame": []},
    "machine.machine": {"Machine": ["step", "run", "status", "fork", "chunk_of"]},
    "asking.program": {"Program": ["start", "after", "function_of"]},
    "live.live": {"Live": [
        "text_now", "steps_made", "output_lines", "status", "edit", "undo", "unfeed", "feed", "step", "go", "run", "set_breaks",
        "where", "failure", "variables", "evaluate", "changes", "visits", "printed", "profile", "coverage", "trace"]},
}
# The arguments of the methods of a live program.
LIVE = {
    "edit": ["start", "stop", "new"], "feed": ["line"], "step": ["count"], "go": ["count"], "run": ["mode"],
    "set_breaks": ["lines"], "variables": ["index"], "evaluate": ["index", "text"], "changes": ["index", "name"],
    "visits": ["line"], "printed": ["index"], "trace": ["first", "last"],
}
ARGUMENTS = {
    "values.refs": {"Ref": ["number"], "Builtin": ["name"]}, "values.store": {"Store": ["lines"]},
    "code.chunks": {"Chunk": ["number", "wanted", "rows", "scopes"]},
    "meaning.meaning": {"Meaning": ["tree", "lines"]}, "machine.frames": {"Frame": ["number", "scope"]},
    "machine.machine": {"Machine": ["chunks", "lines"]}, "asking.program": {"Program": ["text"]},
    "errors": {"ScriptError": ["kind", "message"], "InvalidText": ["offset", "message"],
               "InvalidCode": ["offset", "message"], "InvalidSave": ["offset", "message"]},
    "live.live": {"Live": ["text"]},
}
CONSTANTS = {
    "names.language": ["FUNCTION_NAMES"], "names.faults": ["MOST_ARGUMENTS", "MOST_PARAMETERS", "MOST_FUNCTIONS"],
    "values.refs": ["BUILTINS"],
}


def definitions(module, kind):
    """Returns a dict of the definitions of this kind at the top of a module."""
    tree = ast.parse((ROOT / "livequill" / (module.replace(".", "/") + ".py")).read_text())
    return {node.name: node for node in tree.body if isinstance(node, kind)}


class InterfaceTest(unittest.TestCase):
    def test_functions(self):
        for module, functions in FUNCTIONS.items():
            found = definitions(module, ast.FunctionDef)
            for name, arguments in functions.items():
                with self.subTest(f"{module}.{name}"):
                    held = found[name].args
                    self.assertEqual([argument.arg for argument in held.args + held.kwonlyargs], arguments)

    def test_first_is_passed_by_keyword(self):
        held = definitions("text.parser", ast.FunctionDef)["parse_expression"].args
        self.assertEqual([argument.arg for argument in held.kwonlyargs], ["first"])

    def test_classes(self):
        for module, classes in CLASSES.items():
            found = definitions(module, ast.ClassDef)
            for name, methods in classes.items():
                with self.subTest(f"{module}.{name}"):
                    own = [node.name for node in found[name].body if isinstance(node, ast.FunctionDef)]
                    self.assertEqual([method for method in methods if method not in own], [])

    def test_arguments_of_classes(self):
        for module, classes in ARGUMENTS.items():
            found = definitions(module, ast.ClassDef)
            for name, arguments in classes.items():
                with self.subTest(f"{module}.{name}"):
                    (init,) = [node for node in found[name].body
                               if isinstance(node, ast.FunctionDef) and node.name == "__init__"]
                    self.assertEqual([argument.arg for argument in init.args.args], ["self", *arguments])

    def test_arguments_of_methods(self):
        live = definitions("live.live", ast.ClassDef)["Live"]
        found = {node.name: [argument.arg for argument in node.args.args] for node in live.body
                 if isinstance(node, ast.FunctionDef)}
        for name in CLASSES["live.live"]["Live"]:
            self.assertEqual(found[name], ["self", *LIVE.get(name, [])])

    def test_constants(self):
        for module, names in CONSTANTS.items():
            held = importlib.import_module("livequill." + module)
            for name in names:
                self.assertTrue(hasattr(held, name), f"{module}.{name}")


if __name__ == "__main__":
    unittest.main()
