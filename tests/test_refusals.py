"""Point 11: what is refused, with which class, and that nothing has changed behind it."""

import unittest

from plain import FORTY, filled, snapshot
from splitheap.errors import Bare, HeapError, Heavier, NoHeap, NoThing, Same
from splitheap.field import Field

CLASSES = (NoHeap, NoThing, Bare, Same, Heavier)
BAD_NUMBERS = (-1, -2, -3, -4, -8, -FORTY, FORTY)


class Refusals(unittest.TestCase):
    """Heap 0 holds things, heap 1 is empty, heap 2 holds two things; thing 5 is gone."""

    def setUp(self):
        self.field = Field()
        filled(self.field, 5, 3, 7, 4, 6, 1)
        self.field.take(0)
        self.field.heap()
        filled(self.field, 2, -2)
        self.field.sink(2, 2)
        self.assertEqual(self.field.work(), 3)

    def refused(self, kind, deed, *told):
        before = snapshot(self.field, 3, 9)
        for caught in (kind, HeapError, ValueError):
            with self.assertRaises(caught) as held:
                deed(*told)
            self.assertIs(type(held.exception), kind)
        for other in CLASSES:
            self.assertEqual(isinstance(held.exception, other), other is kind)
        self.assertEqual(snapshot(self.field, 3, 9), before)
        self.assertEqual(self.field.work(), 3)

    def bad_heaps(self):
        return BAD_NUMBERS + (3, 4, 100)

    def bad_things(self):
        return BAD_NUMBERS + (5, 8, 9, 300)

    def test_no_heap(self):
        field = self.field
        for heap in self.bad_heaps():
            self.refused(NoHeap, field.put, heap, 1)
            self.refused(NoHeap, field.least, heap)
            self.refused(NoHeap, field.take, heap)
            self.refused(NoHeap, field.things, heap)
            self.refused(NoHeap, field.tree, heap)
            self.refused(NoHeap, field.pour, heap, 0)
            self.refused(NoHeap, field.pour, 0, heap)
            self.refused(NoHeap, field.pour, heap, 1)
            self.refused(NoHeap, field.pour, 1, heap)

    def test_no_thing(self):
        field = self.field
        for thing in self.bad_things():
            self.refused(NoThing, field.sink, thing, -9)
            self.refused(NoThing, field.weight_of, thing)
            self.refused(NoThing, field.heap_of, thing)

    def test_bare(self):
        self.refused(Bare, self.field.least, 1)
        self.refused(Bare, self.field.take, 1)

    def test_same(self):
        for heap in range(3):
            self.refused(Same, self.field.pour, heap, heap)

    def test_heavier(self):
        field = self.field
        for thing, weight in ((2, 2), (1, 3), (0, 5), (3, 4), (6, 2), (7, -2)):
            self.refused(Heavier, field.sink, thing, weight + 1)
            self.refused(Heavier, field.sink, thing, FORTY)
        self.refused(Heavier, field.sink, 7, -1)
        self.refused(Heavier, field.sink, 7, 0)

    def test_heavier_goes_by_the_weight_it_has_now(self):
        self.refused(Heavier, self.field.sink, 2, 7)
        self.refused(Heavier, self.field.sink, 2, 3)

    def test_no_heap_and_no_thing_go_first(self):
        field = self.field
        for heap in self.bad_heaps():
            self.refused(NoHeap, field.pour, heap, heap)
        self.refused(NoHeap, field.pour, 3, -1)
        for thing in self.bad_things():
            self.refused(NoThing, field.sink, thing, FORTY)

    def test_in_a_field_without_anything(self):
        self.field = field = Field()
        for number in (0, 1) + BAD_NUMBERS:
            for deed, told in ((field.put, (number, 1)), (field.least, (number,)),
                               (field.take, (number,)), (field.pour, (number, number)),
                               (field.pour, (number, 0)), (field.things, (number,)),
                               (field.tree, (number,))):
                self.assertRaises(NoHeap, deed, *told)
            for deed, told in ((field.sink, (number, 0)), (field.weight_of, (number,)),
                               (field.heap_of, (number,))):
                self.assertRaises(NoThing, deed, *told)
        self.assertEqual(field.work(), 0)
        self.assertEqual(field.heap(), 0)
        self.assertEqual(field.put(0, 1), 0)

    def test_what_is_refused_takes_no_number(self):
        field = self.field
        self.assertRaises(NoHeap, field.put, 3, 1)
        self.assertRaises(Bare, field.take, 1)
        self.assertEqual(field.put(1, 1), 8)
        self.assertEqual(field.heap(), 3)

    def test_a_taken_thing_is_gone_for_good(self):
        field = self.field
        field.pour(1, 0)
        while field.things(1) > 0:
            _, thing = field.take(1)
            self.assertRaises(NoThing, field.weight_of, thing)
            self.assertRaises(NoThing, field.heap_of, thing)
            self.assertRaises(NoThing, field.sink, thing, -FORTY)
        field.put(1, 1)
        for thing in range(6):
            self.assertRaises(NoThing, field.heap_of, thing)
        self.assertRaises(Bare, field.least, 0)
        self.assertRaises(Bare, field.take, 0)

    def test_bare_behind_the_last_taking_and_not_behind_a_putting(self):
        field = Field()
        heap = filled(field, 1)
        field.take(heap)
        self.assertRaises(Bare, field.take, heap)
        field.put(heap, 2)
        self.assertEqual(field.take(heap), (2, 1))

    def test_another_fields_numbers_are_none_here(self):
        other = Field()
        self.assertRaises(NoHeap, other.tree, 0)
        self.assertRaises(NoThing, other.weight_of, 0)


if __name__ == "__main__":
    unittest.main()
