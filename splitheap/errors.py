"""The refusals of a field."""


class HeapError(ValueError):
    """Any refusal."""


class NoHeap(HeapError):
    """The number is no heap's."""


class NoThing(HeapError):
    """The number is no thing's, or that of a thing which is gone."""


class Bare(HeapError):
    """The heap has no least thing, for it is empty."""


class Same(HeapError):
    """A heap was to be poured into itself."""


class Heavier(HeapError):
    """The weight is greater than the one that the thing has."""
