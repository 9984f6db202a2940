"""Lines, columns and changes of a text: points [24] and [25]."""

import unittest

from livequill.names.places import changed, place_of


class PlaceOfTest(unittest.TestCase):
    def test_each_offset(self):
        text = "ab\n\nc\n"
        places = [(1, 1), (1, 2), (1, 3), (2, 1), (3, 1), (3, 2), (4, 1)]
        self.assertEqual([place_of(text, offset) for offset in range(len(text) + 1)], places)

    def test_the_empty_text(self):
        self.assertEqual(place_of("", 0), (1, 1))

    def test_one_line(self):
        self.assertEqual(place_of("abc", 0), (1, 1))
        self.assertEqual(place_of("abc", 3), (1, 4))

    def test_a_newline_at_the_beginning(self):
        self.assertEqual(place_of("\nabc", 0), (1, 1))
        self.assertEqual(place_of("\nabc", 1), (2, 1))
        self.assertEqual(place_of("\nabc", 4), (2, 4))

    def test_a_newline_alone_ends_a_line(self):
        self.assertEqual(place_of("a\r\x0b\u2028b", 5), (1, 6))


class ChangedTest(unittest.TestCase):
    def test_parts(self):
        self.assertEqual(changed("abcd", 0, 2, "X"), "Xcd")
        self.assertEqual(changed("abcd", 1, 3, "XYZ"), "aXYZd")
        self.assertEqual(changed("abcd", 2, 4, "X"), "abX")
        self.assertEqual(changed("abcd", 0, 4, "X"), "X")

    def test_empty_parts(self):
        self.assertEqual(changed("abcd", 0, 0, "X"), "Xabcd")
        self.assertEqual(changed("abcd", 2, 2, "X"), "abXcd")
        self.assertEqual(changed("abcd", 4, 4, "X"), "abcdX")
        self.assertEqual(changed("", 0, 0, "X"), "X")

    def test_empty_new_texts(self):
        self.assertEqual(changed("abcd", 1, 3, ""), "ad")
        self.assertEqual(changed("abcd", 0, 4, ""), "")
        self.assertEqual(changed("abcd", 2, 2, ""), "abcd")


if __name__ == "__main__":
    unittest.main()
