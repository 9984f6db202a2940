"""The package keeps to the rules of LANGUAGE.md, as far as tests/form.py can tell."""

import tempfile
import unittest
from pathlib import Path

from form import breaches_of

ROOT = Path(__file__).resolve().parent.parent


class FormTest(unittest.TestCase):
    def test_the_package(self):
        self.assertEqual(breaches_of(ROOT, "livequill"), [])


class CheckTest(unittest.TestCase):
    """The check itself finds what it looks for."""

    def breaches(self, text):
        with tempfile.TemporaryDirectory() as folder:
            package = Path(folder) / "pack"
            package.mkdir()
            (package / "__init__.py").write_text('"""A package."""\n')
            (package / "one.py").write_text(text)
            return [line.split()[0] for line in breaches_of(folder, "pack")]

    def test_sound_code(self):
        self.assertEqual(self.breaches('"""A file."""\n\nMOST = 3\n\n\ndef half(number):\n    return number // 2\n'), [])

    def test_names_from_math(self):
        head = "from math import gcd, isqrt\n\n\n"
        self.assertEqual(self.breaches(head + "def f(x, y):\n    return gcd(x, isqrt(y))\n"), [])
        for text in ("from math import floor\n", "from math import gcd as g\n", head + "def f(gcd):\n    return gcd\n",
                     head + "def f(x):\n    y = isqrt\n    return y(x)\n", head + "MOST = gcd(4, 6)\n"):
            with self.subTest(text):
                self.assertIn("L2", self.breaches(text))

    def test_breaches(self):
        texts = {
            "L2": "from os import path\n",
            "L3": "MOST = len([1])\n",
            "L4": "def f(x: int):\n    return x\n",
            "L5": "class A:\n    def __hash__(self):\n        return 1\n",
            "L6": "def f(x):\n    with x:\n        return 1\n",
            "L7": "def f(x):\n    return x / 2\n",
            "L8": "def f(x):\n    return hash(x)\n",
            "L10": "def f(x):\n" + "    x = 1\n" * 40 + "    return x\n",
            "L12": "def f(x):\n    _ = x\n    return _\n",
            "L14": "NAME = '\u00e9'\n",
            "L15": "def f(max):\n    return max\n",
            "L17": "def f(x):\n    return 'enum'\n",
            "L18": "class A:\n    def __init__(self):\n        self.f = 1\n\n    def f(self):\n        return 1\n",
            "L20": "def f(x, y):\n    return x is y\n",
            "L22": "def f(x):\n    return int(x, base=2)\n",
            "L23": "def f(x):\n    y = zip(x, x)\n    return list(y)\n",
            "L25": "def f(x):\n    return x.encode()\n",
            "L26": "class A:\n    def __init__(self):\n        self.items = 1\n",
            "L27": "NAME = '50 %'\n",
        }
        for rule, text in texts.items():
            with self.subTest(rule):
                self.assertIn(rule, self.breaches(text))


if __name__ == "__main__":
    unittest.main()
