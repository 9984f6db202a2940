import unittest

from livequill import errors


class ErrorsTest(unittest.TestCase):
    def test_all_derive_from_the_base_class(self):
        names = [
            "InvalidText", "InvalidCode", "ScriptError", "Waiting", "InvalidOffset", "InvalidCount",
            "InvalidLine", "InvalidMode", "NoSuchCall", "NoSuchVariable", "NoSuchOutput", "TooLong",
            "TooManyLines", "InvalidSave",
        ]
        for name in names:
            with self.subTest(name):
                self.assertTrue(issubclass(getattr(errors, name), errors.LivequillError))
        self.assertTrue(issubclass(errors.LivequillError, ValueError))

    def test_faults_have_offset_and_message(self):
        for kind in (errors.InvalidText, errors.InvalidCode, errors.InvalidSave):
            with self.subTest(kind.__name__):
                error = kind(3, "expected ;")
                self.assertEqual((error.offset, error.message), (3, "expected ;"))

    def test_script_error_has_kind_and_message(self):
        error = errors.ScriptError("KeyError", "no such key")
        self.assertEqual((error.kind, error.message), ("KeyError", "no such key"))

    def test_errors_without_fields(self):
        names = [
            "Waiting", "InvalidOffset", "InvalidCount", "InvalidLine", "InvalidMode", "NoSuchCall",
            "NoSuchVariable", "NoSuchOutput", "TooLong", "TooManyLines",
        ]
        for name in names:
            with self.subTest(name), self.assertRaises(errors.LivequillError):
                raise getattr(errors, name)()


if __name__ == "__main__":
    unittest.main()
