"""The changed functions between two programs: point [72]."""

import unittest

from livequill.code.chunks import Chunk
from livequill.live.functions import changed_functions
from livequill.values.refs import Builtin, Ref

CODE = [("const", 1), ("pop",), ("const", None), ("ret",)]


class Stand:
    """Stands for a program object."""

    def __init__(self, *chunks):
        self.text = ""
        self.tree = ("block", ())
        self.functions = []
        self.chunks = list(chunks)


def numbered(*codes):
    return Stand(*[Chunk(number, 0, rows) for number, rows in enumerate(codes)])


class ChunkTest(unittest.TestCase):
    def test_fields(self):
        rows = list(CODE)
        chunk = Chunk(3, 2, rows, [("x",), (), (), ()])
        rows.clear()
        self.assertEqual((chunk.number, chunk.wanted, chunk.rows), (3, 2, CODE))
        self.assertEqual(chunk.scopes, [("x",), (), (), ()])
        self.assertEqual(Chunk(3, 2, CODE).scopes, [])

    def test_equal(self):
        self.assertTrue(Chunk(1, 2, CODE) == Chunk(1, 2, list(CODE)))
        self.assertTrue(Chunk(1, 2, CODE) == Chunk(1, 2, CODE, [()] * 4))
        self.assertFalse(Chunk(1, 2, CODE) == Chunk(2, 2, CODE))
        self.assertFalse(Chunk(1, 2, CODE) == Chunk(1, 1, CODE))
        self.assertFalse(Chunk(1, 2, CODE) == Chunk(1, 2, CODE[1:]))
        self.assertFalse(Chunk(1, 2, CODE) == Chunk(1, 2, CODE + [("ret",)]))
        self.assertTrue(Chunk(1, 2, []) == Chunk(1, 2, []))
        self.assertFalse(Chunk(1, 2, CODE) == 1)

    def test_kinds_of_constants(self):
        values = [None, True, False, 1, 0, "1", "", Builtin("len"), Builtin("max"), Ref(0)]
        for at, x in enumerate(values):
            for index, y in enumerate(values):
                same = Chunk(0, 0, [("const", x)]) == Chunk(0, 0, [("const", y)])
                self.assertIs(same, at == index, (x, y))


class ChangedFunctionsTest(unittest.TestCase):
    def test_equal_chunks(self):
        self.assertEqual(changed_functions(numbered(CODE, CODE), numbered(CODE, CODE)), [])
        self.assertEqual(changed_functions(numbered(CODE), numbered(list(CODE))), [])

    def test_chunks_that_differ(self):
        other = [("const", 2), *CODE[1:]]
        self.assertEqual(changed_functions(numbered(CODE, CODE, CODE), numbered(other, CODE, other)), [0, 2])
        self.assertEqual(changed_functions(numbered(CODE, CODE), numbered(CODE, other)), [1])

    def test_functions_that_only_one_has(self):
        self.assertEqual(changed_functions(numbered(CODE), numbered(CODE, CODE, CODE)), [1, 2])
        self.assertEqual(changed_functions(numbered(CODE, CODE, CODE), numbered(CODE)), [])

    def test_functions_are_compared_by_their_numbers(self):
        other = [("const", 2), *CODE[1:]]
        self.assertEqual(changed_functions(numbered(CODE, other), numbered(other, CODE)), [0, 1])

    def test_parameters(self):
        self.assertEqual(changed_functions(Stand(Chunk(0, 0, CODE), Chunk(1, 1, CODE)),
                                           Stand(Chunk(0, 0, CODE), Chunk(1, 2, CODE))), [1])

    def test_kinds_of_constants(self):
        self.assertEqual(changed_functions(numbered([("const", True)]), numbered([("const", 1)])), [0])
        self.assertEqual(changed_functions(numbered([("const", 0)]), numbered([("const", False)])), [0])
        self.assertEqual(changed_functions(numbered([("const", Ref(0))]), numbered([("const", Ref(0))])), [])

    def test_scopes_do_not_count(self):
        old = Stand(Chunk(0, 0, CODE, [("x",)] * 4))
        new = Stand(Chunk(0, 0, CODE, [("y",)] * 4))
        self.assertEqual(changed_functions(old, new), [])

    def test_nothing_is_changed(self):
        old, new = numbered(CODE), numbered(CODE, CODE)
        changed_functions(old, new).append(7)
        self.assertEqual((len(old.chunks), len(new.chunks), changed_functions(old, new)), (1, 2, [1]))


if __name__ == "__main__":
    unittest.main()
