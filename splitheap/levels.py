"""How much work a deed may take at most."""


def levels(number):
    """How often 1 can be doubled without coming to more than number + 1."""
    doublings = 0
    doubled = 2
    while doubled <= number + 1:
        doublings += 1
        doubled *= 2
    return doublings


def most_work(deed, things, others):
    """The most pieces of work of a deed in a heap of so many things."""
    if deed == "put":
        return levels(things)
    if deed == "pour":
        return levels(things) + levels(others)
    if deed == "take":
        return 2 * levels(things)
    return 3 * levels(things)
