"""Tests that the package's files keep to the part of Python that the program is written in.

What a look at the text or at the syntax tree can tell is told here, rule by rule; the rest is for the reader.
"""

import ast
import builtins
import pathlib
import re
import unittest

PACKAGE = pathlib.Path(__file__).resolve().parent.parent / "wallbands"

STATEMENTS = (
    ast.FunctionDef, ast.ClassDef, ast.Assign, ast.AugAssign, ast.If, ast.While, ast.For, ast.Return, ast.Break,
    ast.Continue, ast.Pass, ast.Raise, ast.Try, ast.ExceptHandler, ast.Expr, ast.ImportFrom,
)
EXPRESSIONS = (
    ast.Constant, ast.List, ast.Tuple, ast.Dict, ast.Set, ast.BinOp, ast.UnaryOp, ast.BoolOp, ast.Compare, ast.IfExp,
    ast.Call, ast.keyword, ast.Attribute, ast.Subscript, ast.Slice, ast.ListComp, ast.comprehension, ast.Lambda,
    ast.Name, ast.JoinedStr, ast.FormattedValue,
)
PARTS = (
    ast.Module, ast.alias, ast.arguments, ast.arg, ast.expr_context, ast.boolop, ast.operator, ast.unaryop, ast.cmpop,
)
FORBIDDEN_OPERATORS = (ast.Div, ast.MatMult)

OWN_NAMES_OF_PYTHON = set(
    "len range enumerate zip min max sum abs sorted reversed int str bool list tuple dict set frozenset isinstance"
    " ord repr any all divmod Exception ValueError TypeError KeyError IndexError LookupError ZeroDivisionError"
    " ArithmeticError OverflowError RuntimeError NotImplementedError AttributeError StopIteration".split()
)
METHODS = set(
    "append clear copy count endswith extend find get index insert isalnum isalpha isdigit islower isspace isupper"
    " items join keys ljust lower lstrip partition pop remove replace reverse rfind rjust rpartition rsplit rstrip"
    " setdefault split splitlines startswith strip update upper values zfill bit_length".split()
)
WORDS = set(
    "type typing typing_extensions enum Enum IntEnum StrEnum Flag IntFlag Generic Protocol ABC ABCMeta namedtuple"
    " NamedTuple TypedDict TYPE_CHECKING abstractmethod".split()
)
PARTS_OF_WORDS = ("dataclass", "overload", "contextmanager")


def package_files():
    return sorted(path for path in PACKAGE.rglob("*") if path.is_file() and "__pycache__" not in path.parts)


def read_files():
    """Of each file its name, its text and its syntax tree."""
    texts = [(path.name, path.read_bytes().decode("utf-8")) for path in package_files()]
    return [(name, text, ast.parse(text)) for name, text in texts]


def bound_names(tree):
    """Every name that the file itself gives a meaning to."""
    names = set()
    for node in ast.walk(tree):
        if isinstance(node, (ast.FunctionDef, ast.ClassDef)):
            names.add(node.name)
        elif isinstance(node, ast.arg):
            names.add(node.arg)
        elif isinstance(node, ast.alias):
            names.add(node.asname or node.name)
        elif isinstance(node, ast.ExceptHandler) and node.name:
            names.add(node.name)
        elif isinstance(node, ast.Name) and isinstance(node.ctx, ast.Store):
            names.add(node.id)
    return names


def top_names(tree):
    """The names that are bound at the file's top, one entry for each time."""
    names = []
    for node in tree.body:
        if isinstance(node, (ast.FunctionDef, ast.ClassDef)):
            names.append(node.name)
        elif isinstance(node, ast.ImportFrom):
            names.extend(alias.asname or alias.name for alias in node.names)
        elif isinstance(node, ast.Assign):
            names.extend(target.id for target in node.targets if isinstance(target, ast.Name))
    return names


def imported_names(tree):
    """Of each name that is imported the module, without the package, and the name."""
    for node in tree.body:
        if isinstance(node, ast.ImportFrom):
            for alias in node.names:
                yield node.module.partition(".")[2], alias.name


def defined_names(tree):
    """The names that a file's top binds itself."""
    return set(top_names(tree)) - {word for module, word in imported_names(tree)}


class LanguageTest(unittest.TestCase):
    def test_files(self):
        self.assertTrue((PACKAGE / "__init__.py").is_file())
        self.assertTrue((PACKAGE / "rooms.py").is_file())
        for path in package_files():
            self.assertRegex(path.name, r"\A(__init__|[a-z][a-z0-9_]*)\.py\Z", "L1, L14")
            self.assertNotRegex(path.name, r"\A(test|site|conftest|usercustomize)", "L14")

    def test_signs_and_sizes(self):
        for name, text, tree in read_files():
            with self.subTest(file=name):
                self.assertRegex(text, r"\A[ -~\n]*\Z", "L14")
                lines = text.splitlines()
                self.assertLessEqual(len(lines), 400, "L10")
                self.assertLessEqual(max([len(line) for line in lines], default=0), 120, "L10")
                for node in ast.walk(tree):
                    if isinstance(node, ast.FunctionDef):
                        self.assertLessEqual(node.end_lineno - node.lineno + 1, 40, f"L10 {node.name}")

    def test_words(self):
        for name, text, tree in read_files():
            with self.subTest(file=name):
                self.assertEqual(WORDS & set(re.findall(r"\w+", text)), set(), "L17")
                for part in PARTS_OF_WORDS:
                    self.assertNotIn(part, text, "L17")

    def test_only_allowed_kinds_of_code(self):
        for name, text, tree in read_files():
            with self.subTest(file=name):
                for node in ast.walk(tree):
                    place = f"line {getattr(node, 'lineno', '?')}: {ast.dump(node)[:80]}"
                    self.assertIsInstance(node, STATEMENTS + EXPRESSIONS + PARTS, f"L6, L7 {place}")
                    self.assertNotIsInstance(node, FORBIDDEN_OPERATORS, f"L7 {place}")
                    self.check_node(node, place)

    def check_node(self, node, place):
        if isinstance(node, ast.Constant):
            self.assertIn(type(node.value), (int, str, bool, type(None)), f"L7 {place}")
        if isinstance(node, ast.Assign):
            self.assertEqual(len(node.targets), 1, f"L6 {place}")
        if isinstance(node, (ast.For, ast.While)):
            self.assertEqual(node.orelse, [], f"L6 {place}")
        if isinstance(node, ast.Try):
            self.assertEqual(node.finalbody, [], f"L6 {place}")
        if isinstance(node, (ast.FunctionDef, ast.ClassDef)):
            self.assertEqual(node.decorator_list, [], f"L4, L5 {place}")
        if isinstance(node, ast.arguments):
            self.assertEqual((node.vararg, node.kwarg, node.kwonlyargs), (None, None, []), f"L4 {place}")
        if isinstance(node, ast.ListComp):
            self.assertEqual(len(node.generators), 1, f"L7 {place}")
            self.assertLessEqual(len(node.generators[0].ifs), 1, f"L7 {place}")
        if isinstance(node, ast.Compare):
            sides = [node.left] + node.comparators
            if any(isinstance(op, (ast.Is, ast.IsNot)) for op in node.ops):
                found = any(isinstance(s, ast.Constant) and s.value in (None, True, False) for s in sides)
                self.assertTrue(found, f"L20 {place}")
        if isinstance(node, ast.BinOp) and isinstance(node.op, ast.Pow):
            written = isinstance(node.right, ast.Constant) and node.right.value in range(65)
            self.assertTrue(written, f"L27 {place}")

    def test_imports_are_the_packages_own(self):
        for name, text, tree in read_files():
            with self.subTest(file=name):
                for node in ast.walk(tree):
                    if isinstance(node, ast.ImportFrom):
                        self.assertIn(node, tree.body, "L2")
                        self.assertEqual(node.level, 0, "L2")
                        self.assertEqual(node.module.split(".")[0], "wallbands", "L2, L16")

    def test_imports_come_from_where_the_name_is_defined(self):
        trees = {name[:-3]: tree for name, text, tree in read_files()}
        for name, tree in trees.items():
            for module, word in imported_names(tree):
                with self.subTest(file=name, name=word):
                    self.assertIn(word, defined_names(trees[module]), "L16")
        self.assertEqual(list(imported_names(trees["__init__"])), [], "L16")

    def test_no_two_files_draw_from_one_another(self):
        drawn = {name[:-3]: {module for module, word in imported_names(tree)} for name, text, tree in read_files()}
        while drawn:
            free = {name for name, modules in drawn.items() if not modules & set(drawn)}
            self.assertTrue(free, f"L16 {drawn}")
            drawn = {name: modules for name, modules in drawn.items() if name not in free}

    def test_top_of_a_file(self):
        for name, text, tree in read_files():
            with self.subTest(file=name):
                allowed = (ast.FunctionDef, ast.ClassDef, ast.ImportFrom, ast.Assign)
                self.assertTrue(ast.get_docstring(tree))
                for node in tree.body[1:]:
                    self.assertIsInstance(node, allowed, "L3")
                    if isinstance(node, ast.Assign):
                        called = [part for part in ast.walk(node) if isinstance(part, (ast.Call, ast.ListComp))]
                        self.assertEqual(called, [], "L3")
                names = top_names(tree)
                self.assertEqual(len(names), len(set(names)), "L15")

    def test_names(self):
        for name, text, tree in read_files():
            with self.subTest(file=name):
                bound = bound_names(tree)
                for word in bound:
                    self.assertRegex(word, r"\A([A-Za-z]\w*|__(init|eq|repr|str|len|all|version)__)\Z", "L12")
                self.assertEqual(bound & set(dir(builtins)), set(), "L8, L15")
                used = {node.id for node in ast.walk(tree) if isinstance(node, ast.Name)}
                self.assertEqual(used - bound - OWN_NAMES_OF_PYTHON, set(), "L8")

    def test_methods(self):
        for name, text, tree in read_files():
            with self.subTest(file=name):
                own = bound_names(tree)
                attributes = [node for node in ast.walk(tree) if isinstance(node, ast.Attribute)]
                stored = {node.attr for node in attributes if isinstance(node.ctx, ast.Store)}
                used = {node.attr for node in attributes}
                self.assertEqual(used - METHODS - own - stored - {"__init__"}, set(), "L25, L26")


if __name__ == "__main__":
    unittest.main()
