"""The names, arguments and kinds of values of the interface."""

import inspect
import unittest

from splitheap import errors, field, levels

METHODS = {
    "heap": [],
    "put": ["heap", "weight"],
    "least": ["heap"],
    "take": ["heap"],
    "pour": ["heap", "other"],
    "sink": ["thing", "weight"],
    "weight_of": ["thing"],
    "heap_of": ["thing"],
    "things": ["heap"],
    "tree": ["heap"],
    "work": [],
}


class Interface(unittest.TestCase):
    def test_the_refusals_stand_in_their_file_and_none_under_another(self):
        self.assertEqual(errors.HeapError.__bases__, (ValueError,))
        self.assertEqual(errors.HeapError.__module__, "splitheap.errors")
        for name in ("NoHeap", "NoThing", "Bare", "Same", "Heavier"):
            refusal = getattr(errors, name)
            self.assertEqual(refusal.__module__, "splitheap.errors")
            self.assertEqual(refusal.__bases__, (errors.HeapError,))

    def test_the_functions_of_levels(self):
        self.assertEqual(levels.levels.__module__, "splitheap.levels")
        self.assertEqual(list(inspect.signature(levels.levels).parameters), ["number"])
        self.assertEqual(levels.most_work.__module__, "splitheap.levels")
        told = list(inspect.signature(levels.most_work).parameters)
        self.assertEqual(told, ["deed", "things", "others"])

    def test_the_field_has_each_method_in_its_own_body(self):
        self.assertEqual(field.Field.__module__, "splitheap.field")
        self.assertEqual(list(inspect.signature(field.Field).parameters), [])
        for name, told in METHODS.items():
            self.assertIn(name, vars(field.Field))
            parameters = inspect.signature(vars(field.Field)[name]).parameters
            self.assertEqual(list(parameters)[1:], told, name)

    def test_the_kinds_of_what_is_told(self):
        one = field.Field()
        self.assertIs(type(one.work()), int)
        self.assertIs(type(one.heap()), int)
        self.assertIs(type(one.heap()), int)
        self.assertIs(type(one.put(0, 1)), int)
        self.assertIs(type(one.put(0, 0)), int)
        for told in (one.work(), one.things(0), one.things(1), one.heap_of(0), one.weight_of(0)):
            self.assertIs(type(told), int)
        self.assertIs(type(one.least(0)), tuple)
        self.assertEqual([type(part) for part in one.least(0)], [int, int])
        rows = one.tree(0)
        self.assertIs(type(rows), list)
        self.assertEqual([type(row) for row in rows], [tuple, tuple])
        self.assertEqual([type(part) for part in rows[0]], [int, int, int, type(None), int])
        self.assertIs(type(one.tree(1)), list)
        self.assertIsNone(one.sink(0, 0))
        self.assertIsNone(one.pour(1, 0))
        taken = one.take(1)
        self.assertIs(type(taken), tuple)
        self.assertEqual([type(part) for part in taken], [int, int])
        self.assertIs(type(levels.levels(0)), int)
        self.assertIs(type(levels.most_work("take", 1, 0)), int)


if __name__ == "__main__":
    unittest.main()
