"""A field of heaps."""

from splitheap.errors import Bare, Heavier, NoHeap, NoThing, Same
from splitheap.trees import Node, cut_out, in_order, joined, lesser, thing_of


class Field:
    """Heaps and the things in them, each told by a number."""

    def __init__(self):
        # By the number of the heap: the top of its tree, or None.
        self._tops = []
        # By the number of the thing: its node, or None when it is gone.
        self._nodes = []
        self._work = 0

    def heap(self):
        """Make a new, empty heap; its number."""
        self._tops.append(None)
        return len(self._tops) - 1

    def put(self, heap, weight):
        """Make a new thing of the weight in the heap; its number."""
        self._check_heap(heap)
        node = Node(len(self._nodes), weight, heap)
        self._nodes.append(node)
        self._work = self._plant(heap, self._tops[heap], node)
        return node.thing

    def least(self, heap):
        """The weight and the number of the least thing in the heap."""
        top = self._top(heap)
        return top.weight, top.thing

    def take(self, heap):
        """Take the least thing out of the heap; its weight and its number."""
        top = self._top(heap)
        self._nodes[top.thing] = None
        self._work = self._plant(heap, top.left, top.right)
        return top.weight, top.thing

    def pour(self, heap, other):
        """Put all things of the other heap into the heap."""
        self._check_heap(heap)
        self._check_heap(other)
        if heap == other:
            raise Same(f"heap {heap} can't be poured into itself")
        poured = self._tops[other]
        for node in in_order(poured):
            node.home = heap
        self._tops[other] = None
        self._work = self._plant(heap, self._tops[heap], poured)

    def sink(self, thing, weight):
        """Give the thing a weight that is no greater than the one it has."""
        node = self._node(thing)
        if weight > node.weight:
            raise Heavier(f"thing {thing} has a weight of {node.weight}, which is less than {weight}")
        node.weight = weight
        self._work = 0
        if node.above is not None and lesser(node, node.above):
            looked_at = cut_out(node)
            self._work = looked_at + self._plant(node.home, self._tops[node.home], node)

    def weight_of(self, thing):
        """The weight of the thing."""
        return self._node(thing).weight

    def heap_of(self, thing):
        """The number of the heap in which the thing lies."""
        return self._node(thing).home

    def things(self, heap):
        """How many things the heap holds."""
        self._check_heap(heap)
        return len(in_order(self._tops[heap]))

    def tree(self, heap):
        """A row (thing, weight, left, right, run) for each thing of the heap, from the top down."""
        self._check_heap(heap)
        return [
            (node.thing, node.weight, thing_of(node.left), thing_of(node.right), node.run)
            for node in in_order(self._tops[heap])
        ]

    def work(self):
        """How many pieces of work the last deed took."""
        return self._work

    def _plant(self, heap, one, other):
        """Make both trees, joined, the heap's tree; the pieces of work."""
        top, meetings = joined(one, other)
        self._tops[heap] = top
        return meetings

    def _check_heap(self, heap):
        """Refuse a number that is no heap's."""
        if not 0 <= heap < len(self._tops):
            raise NoHeap(f"there is no heap {heap}")

    def _top(self, heap):
        """The node of the least thing in the heap."""
        self._check_heap(heap)
        top = self._tops[heap]
        if top is None:
            raise Bare(f"heap {heap} is empty")
        return top

    def _node(self, thing):
        """The node of a thing that lies in a heap."""
        if not 0 <= thing < len(self._nodes):
            raise NoThing(f"there is no thing {thing}")
        node = self._nodes[thing]
        if node is None:
            raise NoThing(f"thing {thing} is gone")
        return node
