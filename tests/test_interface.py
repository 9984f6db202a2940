"""What the interface lists is defined where it is listed."""

import ast
import importlib
import unittest
from pathlib import Path

ROOT = Path(__file__).resolve().parent.parent

FUNCTIONS = {
    "text.tokens": {"tokens_of": ["text"]},
    "text.parser": {"parse": ["text"], "parse_expression": ["text", "first"]},
    "text.trees": {"parts_of": ["term"], "without_offsets": ["term"]},
    "text.printer": {"printed": ["program"], "printed_expression": ["term"]},
    "names.functions": {"functions_of": ["program"], "functions_in": ["term", "around"],
                        "scope_after": ["item", "scope"]},
    "names.language": {"is_of_language": ["name"]},
    "names.faults": {"faults_of": ["program"], "faults_in": ["term", "scope"], "read_program": ["text"]},
    "names.places": {"place_of": ["text", "offset"], "changed": ["text", "start", "stop", "new"]},
    "values.kinds": {"kind_of": ["store", "value"], "is_true": ["value"], "equal": ["x", "y"], "is_key": ["value"],
                     "is_below": ["store", "kin", "other"], "method_of": ["store", "kin", "name"]},
    "live.functions": {"changed_functions": ["old", "new"]},
}
CLASSES = {
    "errors": {
        "LivequillError": [], "InvalidText": [], "InvalidCode": [], "ScriptError": [], "Waiting": [],
        "InvalidOffset": [], "InvalidCount": [], "InvalidLine": [], "InvalidMode": [], "NoSuchCall": [],
        "NoSuchVariable": [], "NoSuchOutput": [], "TooLong": [], "TooManyLines": [], "InvalidSave": [],
    },
    "names.functions": {"Function": []},
    "values.refs": {"Ref": ["__eq__"], "Builtin": ["__eq__"]},
    "values.things": {
        "Parts": [], "Table": ["has", "value_of", "put", "take_out", "pairs", "many"], "Instance": [], "Kin": [],
        "Closure": [], "Bound": [], "Variable": [], "Cursor": [],
    },
    "values.store": {"Store": ["make", "at", "fork"]},
    "code.chunks": {"Chunk": ["__eq__"]},
}
CONSTANTS = {
    "names.language": ["FUNCTION_NAMES"], "names.faults": ["MOST_ARGUMENTS", "MOST_PARAMETERS", "MOST_FUNCTIONS"],
    "values.refs": ["BUILTINS"],
}


def definitions(module, kind):
    """Returns a dict of the definitions of this kind at the top of a module."""
    tree = ast.parse((ROOT / "livequill" / (module.replace(".", "/") + ".py")).read_text())
    return {node.name: node for node in tree.body if isinstance(node, kind)}


class InterfaceTest(unittest.TestCase):
    def test_functions(self):
        for module, functions in FUNCTIONS.items():
            found = definitions(module, ast.FunctionDef)
            for name, arguments in functions.items():
                with self.subTest(f"{module}.{name}"):
                    held = found[name].args
                    self.assertEqual([argument.arg for argument in held.args + held.kwonlyargs], arguments)

    def test_first_is_passed_by_keyword(self):
        held = definitions("text.parser", ast.FunctionDef)["parse_expression"].args
        self.assertEqual([argument.arg for argument in held.kwonlyargs], ["first"])

    def test_classes(self):
        for module, classes in CLASSES.items():
            found = definitions(module, ast.ClassDef)
            for name, methods in classes.items():
                with self.subTest(f"{module}.{name}"):
                    own = [node.name for node in found[name].body if isinstance(node, ast.FunctionDef)]
                    self.assertEqual([method for method in methods if method not in own], [])

    def test_constants(self):
        for module, names in CONSTANTS.items():
            held = importlib.import_module("livequill." + module)
            for name in names:
                self.assertTrue(hasattr(held, name), f"{module}.{name}")


if __name__ == "__main__":
    unittest.main()
