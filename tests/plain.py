"""What the tests share: a plain second telling of the points, and checks of a told tree.

The trees here are nested tuples (thing, left, right) with None for an empty one. Every run is
counted anew from the shape each time, so nothing here can be stale.
"""

FORTY = 10 ** 40 - 1


class Dice:
    """Numbers that look thrown but are the same in every run of the tests."""

    def __init__(self, seed):
        self.state = seed

    def below(self, limit):
        self.state = (self.state * 6364136223846793005 + 1442695040888963407) % 2 ** 64
        return (self.state >> 16) % limit

    def pick(self, rows):
        return rows[self.below(len(rows))]


def run(tree):
    many = 0
    while tree is not None:
        many += 1
        tree = tree[2]
    return many


def leaning(thing, left, right):
    """The tree of these, its parts on the sides on which point 5 wants them."""
    if run(right) > run(left):
        return (thing, right, left)
    return (thing, left, right)


def listed(tree):
    """All trees in the tree, each ahead of its left part and that ahead of its right part."""
    out, waiting = [], [tree]
    while waiting:
        one = waiting.pop()
        if one is not None:
            out.append(one)
            waiting += [one[2], one[1]]
    return out


def way_to(tree, thing):
    """The steps (tree, side) from the top down to the thing, and the thing's own tree."""
    waiting = [(tree, ())]
    while waiting:
        one, steps = waiting.pop()
        if one is None:
            continue
        if one[0] == thing:
            way = []
            while steps:
                steps, step = steps
                way.append(step)
            return way, one
        waiting.append((one[1], (steps, (one, 1))))
        waiting.append((one[2], (steps, (one, 2))))
    raise AssertionError("the thing doesn't stand there")


class PlainField:
    """The same field, told once more and as plainly as can be."""

    def __init__(self):
        self.trees = []
        self.weights = {}
        self.made = 0
        self.done = 0

    def key(self, thing):
        return (self.weights[thing], thing)

    def join(self, one, other):
        if one is None or other is None:
            return one or other
        self.done += 1
        if self.key(one[0]) > self.key(other[0]):
            one, other = other, one
        return leaning(one[0], one[1], self.join(one[2], other))

    def heap(self):
        self.trees.append(None)
        return len(self.trees) - 1

    def put(self, heap, weight):
        thing = self.made
        self.made += 1
        self.weights[thing] = weight
        self.done = 0
        self.trees[heap] = self.join(self.trees[heap], (thing, None, None))
        return thing

    def take(self, heap):
        thing, left, right = self.trees[heap]
        self.done = 0
        self.trees[heap] = self.join(left, right)
        return self.weights.pop(thing), thing

    def pour(self, heap, other):
        self.done = 0
        poured, self.trees[other] = self.trees[other], None
        self.trees[heap] = self.join(self.trees[heap], poured)

    def sink(self, thing, weight):
        self.done = 0
        heap = self.heap_of(thing)
        way, out = way_to(self.trees[heap], thing)
        self.weights[thing] = weight
        if not way or self.key(thing) > self.key(way[0][0][0]):
            return
        left_over, ended = None, False
        for ahead, side in way:
            parts = [ahead[1], ahead[2]]
            parts[side - 1] = left_over
            left_over = (ahead[0], parts[0], parts[1])
            if not ended:
                self.done += 1
                left_over = leaning(*left_over)
                ended = run(left_over) == run(ahead)
        self.trees[heap] = self.join(left_over, out)

    def heap_of(self, thing):
        for heap, tree in enumerate(self.trees):
            if any(one[0] == thing for one in listed(tree)):
                return heap
        raise AssertionError("the thing is gone")

    def tree(self, heap):
        return [
            (one[0], self.weights[one[0]], one[1] and one[1][0], one[2] and one[2][0], run(one))
            for one in listed(self.trees[heap])
        ]


def plain_levels(number):
    """By its other meaning: how many figures number and one has in base two, but one."""
    return len(bin(number + 1)) - 3


def check_told_tree(case, rows):
    """Points 4, 5 and 10 and the order of the rows, on a tree as it was told."""
    by_thing = {row[0]: row for row in rows}
    case.assertEqual(len(by_thing), len(rows), "a thing stands twice")
    waiting, order = ([rows[0][0]] if rows else []), []
    while waiting:
        thing = waiting.pop()
        order.append(thing)
        waiting += [part for part in (by_thing[thing][3], by_thing[thing][2]) if part is not None]
    case.assertEqual(order, [row[0] for row in rows], "the order of the rows")
    runs = {None: 0}
    for thing, weight, left, right, told_run in reversed(rows):
        for part in (left, right):
            if part is not None:
                case.assertLess((weight, thing), (by_thing[part][1], part))
        case.assertGreaterEqual(runs[left], runs[right])
        runs[thing] = runs[right] + 1
        case.assertEqual(told_run, runs[thing])
    if rows:
        case.assertLessEqual(rows[0][4], plain_levels(len(rows)))


def told_thing(field, thing):
    """All that a field tells of a thing, or None where it has no such thing."""
    try:
        return field.weight_of(thing), field.heap_of(thing)
    except ValueError:
        return None


def snapshot(field, heaps, things):
    """All that a field tells, of so many heaps and things."""
    return (
        field.work(),
        [field.tree(heap) for heap in range(heaps)],
        [field.things(heap) for heap in range(heaps)],
        [told_thing(field, thing) for thing in range(things)],
    )


def filled(field, *weights):
    """A new heap of the field with things of these weights."""
    heap = field.heap()
    for weight in weights:
        field.put(heap, weight)
    return heap


def emptied(field, heap):
    """All that comes off a heap, one by one."""
    return [field.take(heap) for _ in range(field.things(heap))]
