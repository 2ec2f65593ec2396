"""Points 9 and 10: the levels of a number, and the most work of a deed."""

import unittest

from plain import FORTY
from splitheap.levels import levels, most_work


class Levels(unittest.TestCase):
    def test_small_numbers(self):
        told = [levels(number) for number in range(16)]
        self.assertEqual(told, [0, 1, 1, 2, 2, 2, 2, 3, 3, 3, 3, 3, 3, 3, 3, 4])

    def test_around_powers_of_two(self):
        for power in range(1, 140):
            self.assertEqual(levels(2 ** power - 2), power - 1)
            self.assertEqual(levels(2 ** power - 1), power)
            self.assertEqual(levels(2 ** power), power)
            self.assertEqual(levels(2 ** power + 1), power if power > 1 else 2)

    def test_numbers_of_forty_figures(self):
        self.assertEqual(levels(FORTY), 132)
        self.assertEqual(levels(10 ** 39), 129)
        for number in (FORTY, FORTY - 1, 10 ** 39, 10 ** 39 + 7):
            self.assertLessEqual(2 ** levels(number), number + 1)
            self.assertGreater(2 ** (levels(number) + 1), number + 1)


class MostWork(unittest.TestCase):
    def test_nothing_at_all(self):
        for deed in ("put", "pour", "take", "sink"):
            self.assertEqual(most_work(deed, 0, 0), 0)

    def test_put(self):
        self.assertEqual([most_work("put", many, 0) for many in (1, 2, 3, 6, 7)], [1, 1, 2, 2, 3])
        self.assertEqual(most_work("put", 300, 0), 8)

    def test_pour(self):
        self.assertEqual(most_work("pour", 3, 0), 2)
        self.assertEqual(most_work("pour", 0, 3), 2)
        self.assertEqual(most_work("pour", 3, 7), 5)
        self.assertEqual(most_work("pour", 7, 3), 5)
        self.assertEqual(most_work("pour", 6, 6), 4)

    def test_take(self):
        self.assertEqual([most_work("take", many, 0) for many in (1, 2, 3, 6, 7)], [2, 2, 4, 4, 6])

    def test_sink(self):
        self.assertEqual([most_work("sink", many, 0) for many in (1, 2, 3, 6, 7)], [3, 3, 6, 6, 9])

    def test_the_others_count_only_for_pouring(self):
        for deed, most in (("put", 3), ("take", 6), ("sink", 9)):
            self.assertEqual(most_work(deed, 7, 300), most)
            self.assertEqual(most_work(deed, 7, FORTY), most)
            self.assertEqual(most_work(deed, 0, FORTY), 0)

    def test_large_counts(self):
        self.assertEqual(most_work("put", FORTY, 0), 132)
        self.assertEqual(most_work("pour", FORTY, 0), 132)
        self.assertEqual(most_work("pour", FORTY, 10 ** 39), 261)
        self.assertEqual(most_work("take", FORTY, 0), 264)
        self.assertEqual(most_work("sink", FORTY, 0), 396)


if __name__ == "__main__":
    unittest.main()
