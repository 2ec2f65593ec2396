"""The trees in which the things of a heap stand.

A tree is told by the node at its top; an empty tree is None.
"""


class Node:
    """A thing in its place, with the tree that stands under it."""

    def __init__(self, thing, weight, home):
        self.thing = thing
        self.weight = weight
        self.home = home
        self.above = None
        self.left = None
        self.right = None
        self.run = 1


def lesser(one, other):
    """Whether the one node's thing is lesser than the other one's."""
    return (one.weight, one.thing) < (other.weight, other.thing)


def run_of(top):
    """The run of a tree, empty or not."""
    if top is None:
        return 0
    return top.run


def thing_of(top):
    """The number of the thing at the top of a tree, None for an empty one."""
    if top is None:
        return None
    return top.thing


def settle(node):
    """Let the parts of the node change sides where they must, and count its run anew."""
    if run_of(node.right) > run_of(node.left):
        node.left, node.right = node.right, node.left
    node.run = run_of(node.right) + 1


def meet(one, other):
    """The top of both trees joined, and how often two tops met.

    Only right parts are gone down, so the calls nest no deeper than both runs together.
    """
    if one is None:
        return other, 0
    if other is None:
        return one, 0
    if lesser(other, one):
        one, other = other, one
    below, meetings = meet(one.right, other)
    one.right = below
    below.above = one
    settle(one)
    return one, meetings + 1


def joined(one, other):
    """The top of both trees joined, with nothing above it, and the pieces of work."""
    top, meetings = meet(one, other)
    # A part that was handed in may still know the thing it stood under.
    if top is not None:
        top.above = None
    return top, meetings


def cut_out(node):
    """Take the node with all under it out of its place; the pieces of work.

    The node has another one above it.
    """
    above = node.above
    node.above = None
    if above.left == node:
        above.left = None
    else:
        above.right = None
    looked_at = 0
    while above is not None:
        looked_at += 1
        run_ahead = above.run
        settle(above)
        if above.run == run_ahead:
            return looked_at
        above = above.above
    return looked_at


def in_order(top):
    """The nodes of a tree, each one ahead of its left part and this ahead of its right part.

    Left parts may be as deep as the heap has things, so this doesn't call itself.
    """
    nodes = []
    waiting = [top]
    while waiting:
        node = waiting.pop()
        if node is not None:
            nodes.append(node)
            waiting.append(node.right)
            waiting.append(node.left)
    return nodes
