"""The methods of maps."""

from livequill.values.checks import check_size
from livequill.values.lists import make_pairs
from livequill.values.operators import make_list, make_map, value_at


def has(store, table, key):
    return table.has(key)


def take_out(store, table, key):
    value = value_at(table, key)
    table.take_out(key)
    return value


def keys_of(store, table):
    return make_list(store, [key for key, _ in table.pairs()])


def values_of(store, table):
    return make_list(store, [value for _, value in table.pairs()])


def entries(store, table):
    return make_pairs(store, table.pairs())


def get(store, table, key, other):
    return table.value_of(key) if table.has(key) else other


def merge(store, table, other):
    pairs = store.at(other).pairs()
    new = [key for key, _ in pairs if not table.has(key)]
    check_size(table.many + len(new))
    for key, value in pairs:
        table.put(key, value)


def copy(store, table):
    return make_map(store, table.pairs())


def clear(store, table):
    for key, _ in table.pairs():
        table.take_out(key)


def length(store, table):
    return table.many


# Each method with the kinds of its arguments.
MAP_METHODS = {
    "has": (has, ("key",)), "remove": (take_out, ("key",)), "keys": (keys_of, ()), "values": (values_of, ()),
    "items": (entries, ()), "get": (get, ("key", "any")), "merge": (merge, ("map",)),
    "copy": (copy, ()), "clear": (clear, ()), "length": (length, ()),
}
