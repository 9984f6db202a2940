"""Looks through the package for breaches of those rules of LANGUAGE.md that can be told mechanically.

It is stricter than the rules in places: what the package does without (generators,
annotations, sets, stars in parameters ..) is told, too. Whoever needs one of these
reads the rule and loosens the check.
"""

import ast
import builtins
import re
from pathlib import Path

BUILTINS = set(
    "len range enumerate zip min max sum abs sorted reversed int str bool list tuple dict isinstance ord repr any all "
    "divmod Exception ValueError TypeError KeyError IndexError LookupError ZeroDivisionError ArithmeticError "
    "OverflowError RuntimeError NotImplementedError super property".split())
METHODS = set(
    "append clear copy count endswith extend find get index insert isalnum isalpha isdigit islower isspace isupper "
    "items join keys ljust lower lstrip partition pop remove replace reverse rfind rjust rpartition rsplit rstrip "
    "setdefault split splitlines startswith strip update upper values zfill bit_length".split())
BARRED = set(
    "type typing typing_extensions enum Enum IntEnum StrEnum Flag IntFlag Generic Protocol ABC ABCMeta namedtuple "
    "NamedTuple TypedDict TYPE_CHECKING abstractmethod dataclass overload contextmanager _wall _WallAttr".split())
UNUSED_NAMES = set(
    "register mro elements open input law version_info with_traceback add_note attrgetter breakpoint builtins compile "
    "copyright credits delattr dir eval exec exit gc getattr globals hasattr help id importlib license locals "
    "methodcaller os quit setattr super type vars sys".split())
BARRED_ATTRIBUTES = set(
    "items keys values pop update append clear extend insert remove reverse setdefault sort args encode decode hex "
    "fromhex format format_map mro register elements open input law".split())
DUNDERS = set("__init__ __eq__ __repr__ __str__ __len__".split())
MATH = {"gcd", "lcm", "isqrt", "comb", "perm", "factorial"}
LAZY = {"zip", "enumerate", "range", "reversed"}
VIEWS = {"items", "keys", "values"}
TAKERS = {"list", "tuple", "dict", "sorted", "sum", "any", "all", "enumerate", "zip", "min", "max"}
STATEMENTS = (
    ast.FunctionDef, ast.ClassDef, ast.Assign, ast.AugAssign, ast.If, ast.While, ast.For, ast.Return, ast.Break,
    ast.Continue, ast.Pass, ast.Raise, ast.Assert, ast.Delete, ast.Try, ast.Expr, ast.ImportFrom)
EXPRESSIONS = (
    ast.BoolOp, ast.BinOp, ast.UnaryOp, ast.Lambda, ast.IfExp, ast.Dict, ast.ListComp, ast.DictComp, ast.Compare,
    ast.Call, ast.JoinedStr, ast.FormattedValue, ast.Constant, ast.Attribute, ast.Subscript, ast.Starred, ast.Name,
    ast.List, ast.Tuple, ast.Slice)


class File:
    def __init__(self, root, path):
        self.path = path.relative_to(root)
        self.text = path.read_text(encoding="utf-8")
        self.tree = ast.parse(self.text)
        parts = list(self.path.with_suffix("").parts)
        self.module = ".".join(parts[:-1] if parts[-1] == "__init__" else parts)
        for node in ast.walk(self.tree):
            for child in ast.iter_child_nodes(node):
                child.parent = node

    def imports(self):
        return [node for node in self.tree.body if isinstance(node, ast.ImportFrom)]

    def defined(self):
        """The names that the file itself defines at module level."""
        names = [node.name for node in self.tree.body if isinstance(node, (ast.FunctionDef, ast.ClassDef))]
        return names + [node.targets[0].id for node in self.tree.body if isinstance(node, ast.Assign)]

    def imported(self):
        return [name.asname or name.name for node in self.imports() for name in node.names]


class Form:
    """The breaches of a package that stands at the top of a folder."""

    def __init__(self, root, package):
        self.found = []
        self.folder = root / package
        self.files = [File(root, path) for path in sorted(self.folder.rglob("*.py"))]
        self.by_module = {file.module: file for file in self.files}
        self.attributes, self.methods = self.members()

    def tell(self, rule, file, node, what):
        self.found.append(f"{rule} {file.path}:{getattr(node, 'lineno', node)} {what}")

    def members(self):
        """The names of the attributes that are assigned, and of the methods, in the whole package."""
        attributes, methods = set(), set()
        for file in self.files:
            for node in ast.walk(file.tree):
                if isinstance(node, ast.Attribute) and isinstance(node.ctx, ast.Store):
                    attributes.add(node.attr)
                if isinstance(node, ast.FunctionDef) and isinstance(getattr(node, "parent", None), ast.ClassDef):
                    methods.add(node.name)
        return attributes, methods

    def breaches(self):
        self.check_folder()
        self.check_cycles()
        for file in self.files:
            self.check_text(file)
            self.check_imports(file)
            self.check_top(file)
            self.check_names(file)
            for node in ast.walk(file.tree):
                self.check_node(file, node)
        return self.found

    def check_folder(self):
        for path in sorted(self.folder.rglob("*")):
            if "__pycache__" in path.parts:
                continue
            if path.is_dir():
                if not (path / "__init__.py").exists():
                    self.found.append(f"L14 {path} has no __init__.py")
                if path.with_suffix(".py").exists():
                    self.found.append(f"L14 {path} has the name of a file")
            elif not re.fullmatch(r"[a-z][a-z0-9_]*\.py|__init__\.py|__main__\.py", path.name):
                self.found.append(f"L1 {path}")
            if hasattr(builtins, path.stem) and not path.stem.startswith("__"):
                self.found.append(f"L14 {path} has the name of a builtin")
        if len(self.files) > 100:
            self.found.append("L14 more than 100 files")

    def check_cycles(self):
        after = {
            file.module: [node.module for node in file.imports() if node.module in self.by_module]
            for file in self.files}
        done = set()

        def visit(module, way):
            if module in way:
                self.found.append(f"L16 {' '.join((*way, module))}")
            elif module not in done:
                for other in after[module]:
                    visit(other, (*way, module))
                done.add(module)

        for module in after:
            visit(module, ())

    def check_text(self, file):
        lines = file.text.split("\n")
        if len(lines) - 1 > 399:
            self.tell("L10", file, len(lines), "a file of more than 399 lines")
        for number, line in enumerate(lines, start=1):
            if len(line) > 120:
                self.tell("L10", file, number, "a line of more than 120 characters")
            if not all(" " <= sign <= "~" for sign in line):
                self.tell("L14", file, number, "another character")
            for word in re.findall(r"\w+", line.split("#")[0]):
                if word in BARRED or "dataclass" in word:
                    self.tell("L17", file, number, word)

    def check_imports(self, file):
        seen_other = False
        for node in file.tree.body:
            if not isinstance(node, ast.ImportFrom):
                seen_other = seen_other or not isinstance(node, ast.Expr)
                continue
            source = self.by_module.get(node.module or "")
            if seen_other:
                self.tell("L2", file, node, "an import that is not at the top")
            if node.module == "math":
                self.check_math(file, node)
                continue
            if source is None or node.level:
                self.tell("L2", file, node, f"imports from {node.module}")
                continue
            for name in node.names:
                if name.asname or name.name not in source.defined():
                    self.tell("L16", file, node, f"{name.name} is not defined in {node.module}")

    def check_math(self, file, node):
        """A name from `math` is imported plainly, and only called, in functions, with arguments by position."""
        for name in node.names:
            if name.asname or name.name not in MATH:
                self.tell("L2", file, node, f"imports {name.name} from math")
            for part in ast.walk(file.tree):
                if name.name in bound_names(part):
                    self.tell("L2", file, part, f"{name.name} is another thing, too")
                if isinstance(part, ast.Name) and part.id == name.name:
                    call = part.parent
                    called = isinstance(call, ast.Call) and call.func is part and not call.keywords
                    if not called or part in [inner for top in file.tree.body if isinstance(top, ast.Assign)
                                              for inner in ast.walk(top)]:
                        self.tell("L2", file, part, f"{name.name} is not called")

    def check_top(self, file):
        for at, node in enumerate(file.tree.body):
            doc = at == 0 and isinstance(node, ast.Expr) and isinstance(node.value, ast.Constant)
            if doc or isinstance(node, (ast.ImportFrom, ast.FunctionDef, ast.ClassDef)):
                continue
            if not isinstance(node, ast.Assign) or not isinstance(node.targets[0], ast.Name) or len(node.targets) > 1:
                self.tell("L3", file, node, "more than a plain value at module level")
                continue
            defined_above = [
                other.name for other in file.tree.body[:at] if isinstance(other, ast.FunctionDef)]
            for part in ast.walk(node.value):
                plain = isinstance(part, (ast.Constant, ast.List, ast.Tuple, ast.Dict, ast.expr_context))
                if not plain and not (isinstance(part, ast.Name) and part.id in defined_above):
                    self.tell("L3", file, part, "a value that is not plain")
            for part in ast.walk(node.value):
                if part is not node.value and isinstance(part, (ast.List, ast.Dict)):
                    self.tell("L15", file, part, "a list or dict in a value at module level")
        names = file.defined() + file.imported()
        for name in sorted(set(name for name in names if names.count(name) > 1)):
            self.tell("L15", file, 1, f"{name} is bound twice")

    def check_names(self, file):
        """No name is that of a builtin, of an import or of a class; every name that is read is bound."""
        classes = [node.name for node in file.tree.body if isinstance(node, ast.ClassDef)]
        top = set(file.defined() + file.imported())
        bound = set(top)
        for node in ast.walk(file.tree):
            for name in bound_names(node):
                bound.add(name)
                local = not (isinstance(node, ast.Name) and node.parent in file.tree.body)
                method = isinstance(node, ast.FunctionDef) and isinstance(node.parent, ast.ClassDef)
                if method:
                    if name.startswith("__") and name not in DUNDERS:
                        self.tell("L5", file, node, name)
                    if name in BARRED_ATTRIBUTES - {"update", "pop", "append", "remove", "clear"}:
                        self.tell("L17", file, node, name)
                    continue
                if hasattr(builtins, name) or name in UNUSED_NAMES or name.startswith("__"):
                    self.tell("L15", file, node, f"the name {name}")
                if local and name in file.imported() + classes and not isinstance(node, ast.ClassDef):
                    self.tell("L15", file, node, f"{name} is an import or a class")
        for node in ast.walk(file.tree):
            if isinstance(node, ast.Name) and isinstance(node.ctx, ast.Load):
                if node.id not in bound and node.id not in BUILTINS:
                    self.tell("L8", file, node, node.id)
                if node.id == "_":
                    self.tell("L12", file, node, "_ is read")

    def check_node(self, file, node):
        if isinstance(node, ast.stmt) and not isinstance(node, STATEMENTS):
            self.tell("L6", file, node, node.__class__.__name__)
        if isinstance(node, ast.expr) and not isinstance(node, EXPRESSIONS):
            self.tell("L7", file, node, node.__class__.__name__)
        if isinstance(node, ast.FunctionDef):
            self.check_function(file, node)
        if isinstance(node, ast.ClassDef):
            self.check_class(file, node)
        if isinstance(node, ast.Attribute):
            self.check_attribute(file, node)
        if isinstance(node, ast.Call):
            self.check_call(file, node)
        if isinstance(node, ast.Constant):
            self.check_constant(file, node)
        if isinstance(node, ast.BinOp) and isinstance(node.op, (ast.Div, ast.MatMult)):
            self.tell("L7", file, node, "a float")
        if isinstance(node, ast.Compare):
            self.check_is(file, node)
        if isinstance(node, (ast.For, ast.comprehension)):
            self.check_loop(file, node)
        if isinstance(node, ast.Raise) and node.exc is not None and not isinstance(node.exc, ast.Call):
            self.tell("L19", file, node, "an error that is not created on the spot")

    def check_function(self, file, node):
        if node.end_lineno - node.lineno + 1 > 40:
            self.tell("L10", file, node, "a function of more than 40 lines")
        for decorator in node.decorator_list:
            if not (isinstance(decorator, ast.Name) and decorator.id == "property"):
                self.tell("L4", file, node, "a decorator")
        held = node.args
        for default in held.defaults + [value for value in held.kw_defaults if value is not None]:
            if not all(isinstance(part, (ast.Constant, ast.Tuple, ast.expr_context)) for part in ast.walk(default)):
                self.tell("L4", file, node, "a default value that is not plain")
        annotated = [argument for argument in held.args + held.kwonlyargs if argument.annotation] + [node.returns]
        if any(annotated) or held.vararg or held.kwarg or held.posonlyargs:
            self.tell("L4", file, node, "an annotation or a star")

    def check_class(self, file, node):
        if node.decorator_list or node.keywords or not isinstance(node.parent, ast.Module):
            self.tell("L5", file, node, "a decorator, a keyword, or a class that is not at module level")
        methods = [part.name for part in node.body if isinstance(part, ast.FunctionDef)]
        own = {
            part.attr for part in ast.walk(node) if isinstance(part, ast.Attribute)
            and isinstance(part.ctx, ast.Store) and isinstance(part.value, ast.Name) and part.value.id == "self"}
        for name in methods:
            if methods.count(name) > 1 or name in own:
                self.tell("L18", file, node, f"{name} is defined twice, or a method and an attribute")

    def check_attribute(self, file, node):
        if isinstance(node.ctx, ast.Store):
            if node.attr in BARRED_ATTRIBUTES or not isinstance(node.value, ast.Name):
                self.tell("L26", file, node, f"the attribute {node.attr}")
            return
        called = isinstance(node.parent, ast.Call) and node.parent.func is node
        if called and node.attr in METHODS | self.methods | {"__init__"}:
            return
        if not called and node.attr in self.attributes:
            return
        if not called and node.attr in self.methods and self.is_property(node.attr):
            return
        self.tell("L25", file, node, f".{node.attr}")

    def is_property(self, name):
        return any(
            isinstance(node, ast.FunctionDef) and node.name == name and node.decorator_list
            for file in self.files for node in ast.walk(file.tree))

    def check_call(self, file, node):
        name = node.func.id if isinstance(node.func, ast.Name) else ""
        view = isinstance(node.func, ast.Attribute) and node.func.attr in VIEWS
        if name in LAZY or view:
            around = node.parent
            taken = isinstance(around, ast.Call) and isinstance(around.func, ast.Name) and around.func.id in TAKERS
            looped = isinstance(around, (ast.For, ast.comprehension)) and around.iter is node
            if not taken and not looped:
                self.tell("L23", file, node, "not iterated on the spot")
        for keyword in node.keywords:
            allowed = {"sorted": ("key", "reverse"), "min": ("key", "default"), "max": ("key", "default"),
                       "sum": ("start",), "enumerate": ("start",), "zip": ("strict",)}
            if hasattr(builtins, name) and keyword.arg not in allowed.get(name, ()):
                self.tell("L22", file, node, f"{name} with a keyword")
        if isinstance(node.func, ast.Subscript):
            self.tell("L3", file, node, "a call of an item")

    def check_constant(self, file, node):
        if isinstance(node.value, (float, complex, bytes)):
            self.tell("L7", file, node, "a value of a kind that is not used")
        if isinstance(node.value, str):
            doc = isinstance(node.parent, ast.Expr)
            if "%" in node.value and not doc:
                self.tell("L27", file, node, "the character of L27 in a string")
            if re.search(r"\._+$", node.value) or re.fullmatch(r"__.*__", node.value):
                self.tell("L27", file, node, "underscores in a string")
            source = ast.get_source_segment(file.text, node) or ""
            if re.search(r"\\[^nt\\\"']", source.replace("\\\\", "")):
                self.tell("L27", file, node, "an escape")

    def check_is(self, file, node):
        for operator, right in zip(node.ops, node.comparators):
            if isinstance(operator, (ast.Is, ast.IsNot)):
                if not (isinstance(right, ast.Constant) and right.value in (None, True, False)):
                    self.tell("L20", file, node, "is")

    def check_loop(self, file, node):
        """Nothing is done in a loop to the name that it goes through."""
        if not isinstance(node, ast.For) or not isinstance(node.iter, (ast.Name, ast.Attribute)):
            return
        through = ast.unparse(node.iter)
        for part in ast.walk(ast.Module(body=node.body, type_ignores=[])):
            if isinstance(part, ast.Call) and isinstance(part.func, ast.Attribute):
                changing = part.func.attr in ("append", "extend", "insert", "pop", "remove", "clear", "update")
                if changing and ast.unparse(part.func.value) == through:
                    self.tell("L23", file, part, f"{through} is changed in its loop")


def bound_names(node):
    """The names that a node binds."""
    if isinstance(node, (ast.FunctionDef, ast.ClassDef)):
        return [node.name]
    if isinstance(node, ast.arg):
        return [node.arg]
    if isinstance(node, ast.Name) and isinstance(node.ctx, (ast.Store, ast.Del)):
        return [node.id]
    if isinstance(node, ast.ExceptHandler) and node.name:
        return [node.name]
    return []


def breaches_of(root, package):
    """Returns the list of the breaches that were found in a package, as lines of text."""
    return Form(Path(root), package).breaches()
