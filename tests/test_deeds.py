"""Points 1 to 3: numbers, weights, fields, and the four deeds as seen by what comes off."""

import unittest

from plain import FORTY, Dice, check_told_tree, emptied, filled, snapshot
from splitheap.field import Field


class Numbers(unittest.TestCase):
    def test_heaps_in_the_order_in_which_they_were_made(self):
        field = Field()
        self.assertEqual([field.heap() for _ in range(5)], [0, 1, 2, 3, 4])

    def test_things_in_that_order_whichever_heap_they_are_put_into(self):
        field = Field()
        for _ in range(3):
            field.heap()
        self.assertEqual([field.put(heap, 9) for heap in (2, 0, 0, 1, 2)], [0, 1, 2, 3, 4])
        self.assertEqual([field.heap_of(thing) for thing in range(5)], [2, 0, 0, 1, 2])

    def test_no_number_a_second_time(self):
        field = Field()
        heap = filled(field, 4, 5)
        field.take(heap)
        field.take(heap)
        self.assertEqual(field.put(heap, 4), 2)
        other = field.heap()
        field.pour(other, heap)
        self.assertEqual(field.heap(), 2)
        self.assertEqual(field.put(heap, 4), 3)

    def test_two_fields_have_nothing_to_do_with_one_another(self):
        one, other = Field(), Field()
        filled(one, 3, 1, 2)
        before = snapshot(one, 1, 3)
        self.assertEqual(other.work(), 0)
        self.assertEqual(other.heap(), 0)
        self.assertEqual(other.tree(0), [])
        self.assertEqual(other.put(0, 8), 0)
        other.put(0, 7)
        other.put(0, 6)
        other.sink(0, 1)
        other.take(0)
        self.assertEqual(snapshot(one, 1, 3), before)
        self.assertEqual(Field().work(), 0)

    def test_up_to_the_limits_and_somewhat_beyond(self):
        field = Field()
        self.assertEqual([field.heap() for _ in range(130)], list(range(130)))
        things = [field.put(thing * 7 % 130, 1000 - thing) for thing in range(400)]
        self.assertEqual(things, list(range(400)))
        for other in range(1, 130):
            field.pour(0, other)
        self.assertEqual(field.things(0), 400)
        self.assertEqual(emptied(field, 0), [(1000 - thing, thing) for thing in range(399, -1, -1)])


class Weights(unittest.TestCase):
    def test_of_equal_weights_the_lesser_number_first(self):
        field = Field()
        heap = filled(field, 5, 5, 4, 5, 4)
        self.assertEqual(emptied(field, heap), [(4, 2), (4, 4), (5, 0), (5, 1), (5, 3)])

    def test_equal_weights_across_poured_heaps(self):
        field = Field()
        one, other = field.heap(), field.heap()
        for heap in (other, one, other, one):
            field.put(heap, -3)
        field.pour(one, other)
        self.assertEqual(emptied(field, one), [(-3, 0), (-3, 1), (-3, 2), (-3, 3)])

    def test_below_nought_and_very_large(self):
        field = Field()
        weights = [FORTY, -FORTY, 0, -1, 1, FORTY - 1, -FORTY + 1]
        heap = filled(field, *weights)
        self.assertEqual([field.weight_of(thing) for thing in range(7)], weights)
        self.assertEqual(
            emptied(field, heap),
            [(-FORTY, 1), (-FORTY + 1, 6), (-1, 3), (0, 2), (1, 4), (FORTY - 1, 5), (FORTY, 0)],
        )


class TakingAndLooking(unittest.TestCase):
    def test_the_least_is_told_and_then_taken(self):
        field = Field()
        heap = filled(field, 8, 3, 6, 1, 9)
        for pair in [(1, 3), (3, 1), (6, 2), (8, 0), (9, 4)]:
            self.assertEqual(field.least(heap), pair)
            self.assertEqual(field.take(heap), pair)
        self.assertEqual(field.things(heap), 0)
        self.assertEqual(field.tree(heap), [])

    def test_many_things_in_order(self):
        dice = Dice(5)
        field = Field()
        weights = [dice.below(60) - 30 for _ in range(300)]
        heap = filled(field, *weights)
        in_order = sorted((weight, thing) for thing, weight in enumerate(weights))
        self.assertEqual(emptied(field, heap), in_order)

    def test_how_many_things_a_heap_holds(self):
        field = Field()
        one, other = filled(field, 1, 2, 3), field.heap()
        self.assertEqual((field.things(one), field.things(other)), (3, 0))
        field.take(one)
        field.put(other, 1)
        self.assertEqual((field.things(one), field.things(other)), (2, 1))
        field.pour(other, one)
        self.assertEqual((field.things(one), field.things(other)), (0, 3))
        field.sink(1, 0)
        self.assertEqual((field.things(one), field.things(other)), (0, 3))

    def test_looking_changes_nothing(self):
        field = Field()
        filled(field, 5, 3, 7, 4, 6)
        field.heap()
        before = snapshot(field, 2, 5)
        for _ in range(3):
            field.least(0)
            field.tree(0)
            field.tree(1)
            field.things(0)
            field.weight_of(2)
            field.heap_of(2)
            field.work()
        self.assertEqual(snapshot(field, 2, 5), before)

    def test_a_list_told_is_the_callers_own(self):
        field = Field()
        heap = filled(field, 5, 3, 7)
        told = field.tree(heap)
        kept = list(told)
        told.reverse()
        told.append("more")
        self.assertEqual(field.tree(heap), kept)
        field.put(heap, 1)
        self.assertEqual(len(kept), 3)
        bare = field.heap()
        field.tree(bare).append(1)
        self.assertEqual(field.tree(bare), [])
        self.assertEqual(field.things(bare), 0)


class Pouring(unittest.TestCase):
    def test_both_ways(self):
        for into, out_of in ((0, 1), (1, 0)):
            field = Field()
            filled(field, 4, 2)
            filled(field, 3, 1, 5)
            field.pour(into, out_of)
            self.assertEqual([field.heap_of(thing) for thing in range(5)], [into] * 5)
            self.assertEqual(field.tree(out_of), [])
            self.assertEqual(field.least(into), (1, 3))
            self.assertEqual(emptied(field, into), [(1, 3), (2, 1), (3, 2), (4, 0), (5, 4)])

    def test_empty_heaps(self):
        field = Field()
        bare, full, last = field.heap(), filled(field, 2, 1), field.heap()
        field.pour(full, bare)
        self.assertEqual((field.things(full), field.things(bare), field.work()), (2, 0, 0))
        field.pour(bare, full)
        self.assertEqual((field.things(full), field.things(bare), field.work()), (0, 2, 0))
        self.assertEqual([field.heap_of(0), field.heap_of(1)], [bare, bare])
        field.pour(full, last)
        self.assertEqual((field.things(full), field.things(last), field.work()), (0, 0, 0))
        self.assertEqual(emptied(field, bare), [(1, 1), (2, 0)])

    def test_the_poured_heap_is_used_on(self):
        field = Field()
        one, other = filled(field, 4, 2), filled(field, 3, 1)
        field.pour(one, other)
        self.assertEqual(field.put(other, 7), 4)
        self.assertEqual(field.put(other, 6), 5)
        field.sink(3, 0)
        self.assertEqual([field.heap_of(thing) for thing in range(6)], [0, 0, 0, 0, 1, 1])
        field.pour(other, one)
        self.assertEqual([field.heap_of(thing) for thing in range(6)], [1] * 6)
        self.assertEqual(
            emptied(field, other), [(0, 3), (2, 1), (3, 2), (4, 0), (6, 5), (7, 4)]
        )


class Sinking(unittest.TestCase):
    def setUp(self):
        self.field = Field()
        self.heap = filled(self.field, 5, 3, 7, 4, 6)

    def sunk(self, thing, weight):
        self.field.sink(thing, weight)
        self.assertEqual(self.field.weight_of(thing), weight)
        self.assertEqual(self.field.heap_of(thing), self.heap)
        self.assertEqual(self.field.things(self.heap), 5)
        check_told_tree(self, self.field.tree(self.heap))
        return self.field.least(self.heap)

    def test_by_nought(self):
        before = self.field.tree(self.heap)
        for thing, weight in enumerate((5, 3, 7, 4, 6)):
            self.assertEqual(self.sunk(thing, weight), (3, 1))
            self.assertEqual(self.field.tree(self.heap), before)
            self.assertEqual(self.field.work(), 0)

    def test_of_the_top(self):
        self.assertEqual(self.sunk(1, 2), (2, 1))
        self.assertEqual(self.sunk(1, -FORTY), (-FORTY, 1))

    def test_a_little_without_a_new_least(self):
        self.assertEqual(self.sunk(2, 6), (3, 1))
        self.assertEqual(self.sunk(2, 5), (3, 1))
        self.assertEqual(emptied(self.field, self.heap), [(3, 1), (4, 3), (5, 0), (5, 2), (6, 4)])

    def test_much_from_near_the_top_and_from_far_below(self):
        self.assertEqual(self.sunk(3, -1), (-1, 3))
        self.assertEqual(self.sunk(2, -FORTY), (-FORTY, 2))
        self.assertEqual(
            emptied(self.field, self.heap), [(-FORTY, 2), (-1, 3), (3, 1), (5, 0), (6, 4)]
        )

    def test_to_the_weight_of_the_least(self):
        self.assertEqual(self.sunk(0, 3), (3, 0))
        self.assertEqual(self.sunk(4, 3), (3, 0))
        self.assertEqual(emptied(self.field, self.heap), [(3, 0), (3, 1), (3, 4), (4, 3), (7, 2)])

    def test_in_a_heap_that_was_poured(self):
        other = filled(self.field, 10, 11)
        self.field.pour(other, self.heap)
        bare, self.heap = self.heap, other
        self.field.sink(2, 0)
        self.assertEqual(self.field.least(other), (0, 2))
        self.assertEqual(self.field.heap_of(2), other)
        self.assertEqual(self.field.things(bare), 0)


if __name__ == "__main__":
    unittest.main()
