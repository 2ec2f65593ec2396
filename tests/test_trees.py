"""Points 4 to 8: shapes, sides, runs and pieces of work, worked out by hand.

A row is (thing, weight, left, right, run).
"""

import unittest

from plain import filled
from splitheap.field import Field

# What comes of putting the weights 5, 3, 7, 4, 6, by hand:
#
#            1 (3)
#         3 (4)   0 (5)
#      2 (7) 4 (6)
FIVE = [(1, 3, 3, 0, 2), (3, 4, 2, 4, 2), (2, 7, None, None, 1), (4, 6, None, None, 1),
        (0, 5, None, None, 1)]


class TreeCase(unittest.TestCase):
    def setUp(self):
        self.field = Field()

    def see(self, heap, rows, work):
        self.assertEqual(self.field.tree(heap), rows)
        self.assertEqual(self.field.work(), work)


class Putting(TreeCase):
    def test_one_by_one(self):
        field = self.field
        heap = field.heap()
        self.see(heap, [], 0)
        field.put(heap, 5)
        self.see(heap, [(0, 5, None, None, 1)], 0)
        field.put(heap, 3)
        self.see(heap, [(1, 3, 0, None, 1), (0, 5, None, None, 1)], 1)
        field.put(heap, 7)
        self.see(heap, [(1, 3, 0, 2, 2), (0, 5, None, None, 1), (2, 7, None, None, 1)], 1)
        field.put(heap, 4)
        self.see(heap, [(1, 3, 0, 3, 2), (0, 5, None, None, 1), (3, 4, 2, None, 1),
                        (2, 7, None, None, 1)], 2)
        field.put(heap, 6)
        self.see(heap, FIVE, 2)
        field.put(heap, 1)
        self.see(heap, [(5, 1, 1, None, 1)] + FIVE, 1)

    def test_a_new_least_has_the_whole_tree_on_its_left(self):
        heap = filled(self.field, 3, 2, 1)
        self.see(heap, [(2, 1, 1, None, 1), (1, 2, 0, None, 1), (0, 3, None, None, 1)], 1)

    def test_of_equal_weights_the_earlier_one_stays_above(self):
        heap = filled(self.field, 2, 2, 2)
        self.see(heap, [(0, 2, 1, 2, 2), (1, 2, None, None, 1), (2, 2, None, None, 1)], 1)

    def test_parts_of_equal_runs_do_not_change_sides(self):
        heap = filled(self.field, 1, 9, 2)
        self.see(heap, [(0, 1, 1, 2, 2), (1, 9, None, None, 1), (2, 2, None, None, 1)], 1)


class Taking(TreeCase):
    def test_one_by_one(self):
        field = self.field
        heap = filled(field, 5, 3, 7, 4, 6, 1)
        self.assertEqual(field.take(heap), (1, 5))
        self.see(heap, FIVE, 0)
        self.assertEqual(field.take(heap), (3, 1))
        self.see(heap, [(3, 4, 2, 0, 2), (2, 7, None, None, 1), (0, 5, 4, None, 1),
                        (4, 6, None, None, 1)], 2)
        self.assertEqual(field.take(heap), (4, 3))
        self.see(heap, [(0, 5, 4, 2, 2), (4, 6, None, None, 1), (2, 7, None, None, 1)], 1)
        self.assertEqual(field.take(heap), (5, 0))
        self.see(heap, [(4, 6, 2, None, 1), (2, 7, None, None, 1)], 1)
        self.assertEqual(field.take(heap), (6, 4))
        self.see(heap, [(2, 7, None, None, 1)], 0)
        self.assertEqual(field.take(heap), (7, 2))
        self.see(heap, [], 0)

    def test_what_is_left_can_be_sunk_behind_a_taking(self):
        field = self.field
        heap = filled(field, 5, 3, 7, 4, 6, 1)
        field.take(heap)
        field.sink(1, 2)
        self.see(heap, [(1, 2, 3, 0, 2)] + FIVE[1:], 0)


class Pouring(TreeCase):
    def test_five_and_three(self):
        field = self.field
        five = filled(field, 5, 3, 7, 4, 6)
        three = filled(field, 2, 5, 4)
        self.see(three, [(5, 2, 6, 7, 2), (6, 5, None, None, 1), (7, 4, None, None, 1)], 1)
        # 5 meets 1 and stays above, so 7 meets 1, and below it 7 meets 0; then 7 has 0 on its
        # left, 1 has 3 on its left and 7 on its right, and under 5 these go to the left.
        field.pour(five, three)
        self.see(five, [(5, 2, 1, 6, 2), (1, 3, 3, 7, 2), (3, 4, 2, 4, 2), (2, 7, None, None, 1),
                        (4, 6, None, None, 1), (7, 4, 0, None, 1), (0, 5, None, None, 1),
                        (6, 5, None, None, 1)], 3)
        self.see(three, [], 3)

    def test_the_same_comes_of_it_the_other_way(self):
        trees = []
        for into, out_of in ((0, 1), (1, 0)):
            field = Field()
            filled(field, 5, 3, 7, 4, 6)
            filled(field, 2, 5, 4)
            field.pour(into, out_of)
            self.assertEqual(field.work(), 3)
            trees.append(field.tree(into))
        self.assertEqual(trees[0], trees[1])

    def test_an_empty_heap_takes_no_work(self):
        field = self.field
        five, bare = filled(field, 5, 3, 7, 4, 6), field.heap()
        field.pour(five, bare)
        self.see(five, FIVE, 0)
        field.pour(bare, five)
        self.see(bare, FIVE, 0)
        self.see(five, [], 0)

    def test_equal_weights_meet(self):
        field = self.field
        one, other = field.heap(), field.heap()
        for heap in (other, one):
            field.put(heap, 4)
        field.pour(one, other)
        self.see(one, [(0, 4, 1, None, 1), (1, 4, None, None, 1)], 1)


class SinkingInFive(TreeCase):
    def setUp(self):
        TreeCase.setUp(self)
        self.heap = filled(self.field, 5, 3, 7, 4, 6)
        self.see(self.heap, FIVE, 2)

    def sunk(self, thing, weight, rows, work):
        self.field.sink(thing, weight)
        self.see(self.heap, rows, work)

    def test_the_top_stays(self):
        self.sunk(1, -8, [(1, -8, 3, 0, 2)] + FIVE[1:], 0)

    def test_what_is_not_lesser_than_the_one_above_stays(self):
        self.sunk(2, 5, FIVE[:2] + [(2, 5, None, None, 1)] + FIVE[3:], 0)

    def test_an_equal_weight_and_a_greater_number_stay(self):
        self.sunk(4, 4, FIVE[:3] + [(4, 4, None, None, 1)] + FIVE[4:], 0)

    def test_an_equal_weight_and_a_lesser_number_leave(self):
        # 3 looked at: 4 goes to its left, its run falls to 1. 1 looked at: its run stays 2.
        # Then 1 meets 2, and 0 meets 2.
        self.sunk(2, 4, [(1, 3, 3, 2, 2), (3, 4, 4, None, 1), (4, 6, None, None, 1),
                         (2, 4, 0, None, 1), (0, 5, None, None, 1)], 4)

    def test_a_left_part_leaves_and_becomes_the_top(self):
        # 3 and 1 looked at as above; then 2 meets 1.
        self.sunk(2, 2, [(2, 2, 1, None, 1), (1, 3, 3, 0, 2), (3, 4, 4, None, 1),
                         (4, 6, None, None, 1), (0, 5, None, None, 1)], 3)

    def test_a_right_part_leaves_from_below(self):
        # 3 looked at: 2 stays on its left, its run falls to 1. 1 looked at: its run stays 2.
        self.sunk(4, 1, [(4, 1, 1, None, 1), (1, 3, 3, 0, 2), (3, 4, 2, None, 1),
                         (2, 7, None, None, 1), (0, 5, None, None, 1)], 3)

    def test_a_right_part_leaves_from_under_the_top(self):
        # 1 looked at: its run falls to 1, and it is the top. Then 0 meets 1.
        self.sunk(0, 2, [(0, 2, 1, None, 1), (1, 3, 3, None, 1)] + FIVE[1:4], 2)

    def test_what_stands_under_it_goes_along(self):
        # 1 looked at: 0 goes to its left, its run falls to 1. Then 3 meets 1, and 4 meets 1;
        # 1 has 0 on its left and 4 on its right, and under 3 these go to the left of 2.
        self.sunk(3, 2, [(3, 2, 1, 2, 2), (1, 3, 0, 4, 2), (0, 5, None, None, 1),
                         (4, 6, None, None, 1), (2, 7, None, None, 1)], 3)


class SinkingInAChain(TreeCase):
    """Falling weights stand one on the left of the other, and every run is 1."""

    def setUp(self):
        TreeCase.setUp(self)
        self.heap = filled(self.field, 5, 4, 3, 2, 1)
        self.see(self.heap, [(4, 1, 3, None, 1), (3, 2, 2, None, 1), (2, 3, 1, None, 1),
                             (1, 4, 0, None, 1), (0, 5, None, None, 1)], 1)

    def test_looking_ends_where_the_run_is_the_same(self):
        # 1 looked at: its run stays 1, so none further up. Then 0 meets 4.
        self.field.sink(0, 0)
        self.see(self.heap, [(0, 0, 4, None, 1), (4, 1, 3, None, 1), (3, 2, 2, None, 1),
                             (2, 3, 1, None, 1), (1, 4, None, None, 1)], 2)

    def test_a_middle_one_leaves_with_all_below(self):
        # 3 looked at. Then 2 meets 4, and is lesser by its number.
        self.field.sink(2, 1)
        self.see(self.heap, [(2, 1, 1, 4, 2), (1, 4, 0, None, 1), (0, 5, None, None, 1),
                             (4, 1, 3, None, 1), (3, 2, None, None, 1)], 2)


class SinkingWithALongLook(TreeCase):
    def test_runs_fall_all_the_way_up_to_the_top(self):
        #                6 (1)
        #        0 (2)            3 (3)
        #    1 (4)   2 (6)    4 (5)   5 (7)
        field = self.field
        one, other = filled(field, 2, 4, 6), filled(field, 3, 5, 7)
        top = filled(field, 1)
        field.pour(top, one)
        field.pour(top, other)
        self.see(top, [(6, 1, 0, 3, 3), (0, 2, 1, 2, 2), (1, 4, None, None, 1),
                       (2, 6, None, None, 1), (3, 3, 4, 5, 2), (4, 5, None, None, 1),
                       (5, 7, None, None, 1)], 1)
        # 0 looked at: 2 goes to its left, its run falls from 2 to 1. 6 looked at: its parts have
        # the runs 1 and 2 now and change sides, its run falls from 3 to 2, and it is the top.
        # Then 1 meets 6.
        field.sink(1, 0)
        self.see(top, [(1, 0, 6, None, 1), (6, 1, 3, 0, 2), (3, 3, 4, 5, 2), (4, 5, None, None, 1),
                       (5, 7, None, None, 1), (0, 2, 2, None, 1), (2, 6, None, None, 1)], 3)


class WorkTold(TreeCase):
    def test_nought_ahead_of_the_first_deed(self):
        self.assertEqual(self.field.work(), 0)
        self.field.heap()
        self.assertEqual(self.field.work(), 0)

    def test_making_a_heap_and_looking_are_no_deeds(self):
        field = self.field
        heap = filled(field, 5, 3, 7, 4, 6)
        for look in (field.heap, field.work, lambda: field.least(heap), lambda: field.tree(heap),
                     lambda: field.things(heap), lambda: field.weight_of(0),
                     lambda: field.heap_of(0)):
            look()
            self.assertEqual(field.work(), 2)

    def test_a_deed_without_work_tells_nought(self):
        field = self.field
        heap = filled(field, 5, 3, 7, 4, 6)
        field.sink(1, 3)
        self.assertEqual(field.work(), 0)
        field.put(heap, 9)
        self.assertGreater(field.work(), 0)
        other = field.heap()
        field.put(other, 1)
        self.assertEqual(field.work(), 0)


if __name__ == "__main__":
    unittest.main()
