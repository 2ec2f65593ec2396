"""Long mixed orders of deeds, each told tree and work checked against the plain telling."""

import unittest

from plain import FORTY, Dice, PlainField, check_told_tree, snapshot
from splitheap.errors import HeapError
from splitheap.field import Field
from splitheap.levels import most_work


class Game:
    """One order of deeds, done in a field and in the plain one."""

    def __init__(self, case, seed, heaps, most_things, spread):
        self.case = case
        self.dice = Dice(seed)
        self.most_things = most_things
        self.spread = spread
        self.field, self.plain = Field(), PlainField()
        for _ in range(heaps):
            case.assertEqual(self.field.heap(), self.plain.heap())
        self.heaps = list(range(heaps))
        self.seen = {"put": 0, "take": 0, "pour": 0, "sink": 0}
        self.moved = 0

    def weight(self):
        return self.dice.below(2 * self.spread + 1) - self.spread

    def step(self):
        deed = self.dice.pick(("put", "put", "put", "take", "pour", "sink", "sink", "sink"))
        if deed == "put" and self.plain.made < self.most_things:
            self.put(self.dice.pick(self.heaps))
        elif deed == "take":
            self.take(self.dice.pick(self.heaps))
        elif deed == "pour" and self.dice.below(4) == 0:
            self.pour(self.dice.pick(self.heaps), self.dice.pick(self.heaps))
        elif deed == "sink" and self.plain.weights:
            self.sink(self.dice.pick(sorted(self.plain.weights)))

    def check(self, deed, heap, things, others):
        self.seen[deed] += 1
        self.case.assertEqual(self.field.work(), self.plain.done)
        self.case.assertLessEqual(self.field.work(), most_work(deed, things, others))
        rows = self.field.tree(heap)
        self.case.assertEqual(rows, self.plain.tree(heap))
        self.case.assertEqual(self.field.things(heap), len(rows))
        check_told_tree(self.case, rows)
        if rows:
            self.case.assertEqual(self.field.least(heap), min((row[1], row[0]) for row in rows))

    def put(self, heap):
        things, weight = self.field.things(heap), self.weight()
        self.case.assertEqual(self.field.put(heap, weight), self.plain.put(heap, weight))
        self.check("put", heap, things, 0)

    def take(self, heap):
        things = self.field.things(heap)
        if things == 0:
            self.case.assertRaises(HeapError, self.field.take, heap)
            return
        self.case.assertEqual(self.field.take(heap), self.plain.take(heap))
        self.check("take", heap, things, 0)

    def pour(self, heap, other):
        if heap == other:
            self.case.assertRaises(HeapError, self.field.pour, heap, other)
            return
        things, others = self.field.things(heap), self.field.things(other)
        self.field.pour(heap, other)
        self.plain.pour(heap, other)
        self.case.assertEqual(self.field.tree(other), [])
        self.check("pour", heap, things, others)

    def sink(self, thing):
        heap, weight = self.field.heap_of(thing), self.field.weight_of(thing)
        self.case.assertEqual(weight, self.plain.weights[thing])
        things = self.field.things(heap)
        weight -= self.dice.pick((0, 1, self.dice.below(self.spread + 1), self.spread))
        self.field.sink(thing, weight)
        self.plain.sink(thing, weight)
        self.moved += self.field.work() > 0
        self.check("sink", heap, things, 0)

    def check_all(self):
        for heap in self.heaps:
            self.case.assertEqual(self.field.tree(heap), self.plain.tree(heap))
            for row in self.field.tree(heap):
                self.case.assertEqual(self.field.heap_of(row[0]), heap)
                self.case.assertEqual(self.field.weight_of(row[0]), row[1])
        self.check_refusals()

    def check_refusals(self):
        before = snapshot(self.field, len(self.heaps), self.plain.made)
        for deed, told in ((self.field.put, (len(self.heaps), 1)), (self.field.take, (-1,)),
                           (self.field.pour, (0, 0)), (self.field.sink, (self.plain.made, 0))):
            self.case.assertRaises(HeapError, deed, *told)
        for thing, weight in self.plain.weights.items():
            self.case.assertRaises(HeapError, self.field.sink, thing, weight + 1)
        self.case.assertEqual(snapshot(self.field, len(self.heaps), self.plain.made), before)

    def empty(self):
        for other in self.heaps[1:]:
            self.pour(0, other)
        pairs = sorted((weight, thing) for thing, weight in self.plain.weights.items())
        for pair in pairs:
            self.case.assertEqual(self.field.least(0), pair)
            self.take(0)
        self.case.assertEqual(self.field.tree(0), [])


class LongOrders(unittest.TestCase):
    def played(self, seed, heaps, most_things, spread, steps):
        game = Game(self, seed, heaps, most_things, spread)
        for turn in range(steps):
            game.step()
            if turn % 50 == 0:
                game.check_all()
        game.check_all()
        self.assertGreater(min(game.seen.values()), 5)
        self.assertGreater(game.moved, 20)
        game.empty()

    def test_few_heaps_and_close_weights(self):
        for seed in range(8):
            self.played(seed, 3, 300, 4, 700)

    def test_one_pair_of_heaps_and_large_weights(self):
        for seed in range(4):
            self.played(100 + seed, 2, 300, FORTY // 4, 700)

    def test_many_heaps(self):
        self.played(200, 100, 300, 50, 1500)

    def test_somewhat_beyond_the_limits(self):
        self.played(300, 120, 450, 9, 1800)


class LongHeaps(unittest.TestCase):
    """Orders in which the trees grow as deep or as full as they can."""

    def both(self):
        field, plain = Field(), PlainField()
        self.assertEqual(field.heap(), plain.heap())
        return field, plain

    def test_falling_weights_and_sinking_from_the_very_bottom(self):
        field, plain = self.both()
        for weight in range(450, 0, -1):
            field.put(0, weight)
            plain.put(0, weight)
        self.assertEqual(field.tree(0), plain.tree(0))
        for thing in range(0, 449, 7):
            field.sink(thing, -thing)
            plain.sink(thing, -thing)
            self.assertEqual((field.tree(0), field.work()), (plain.tree(0), plain.done))
            check_told_tree(self, field.tree(0))

    def test_full_trees_keep_within_the_work(self):
        field, plain = self.both()
        for weight in range(300):
            most = most_work("put", weight, 0)
            field.put(0, weight)
            plain.put(0, weight)
            self.assertLessEqual(field.work(), most)
        order = [row[0] for row in field.tree(0)]
        for thing in order[::-3]:
            field.sink(thing, -thing - 1)
            plain.sink(thing, -thing - 1)
            self.assertEqual((field.tree(0), field.work()), (plain.tree(0), plain.done))
            self.assertLessEqual(field.work(), most_work("sink", 300, 0))
            check_told_tree(self, field.tree(0))
        for things in range(300, 0, -1):
            self.assertEqual(field.take(0), plain.take(0))
            self.assertEqual((field.tree(0), field.work()), (plain.tree(0), plain.done))
            self.assertLessEqual(field.work(), most_work("take", things, 0))


if __name__ == "__main__":
    unittest.main()
