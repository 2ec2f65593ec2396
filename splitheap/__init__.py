"""Splitheap: heaps of things that are poured together."""
