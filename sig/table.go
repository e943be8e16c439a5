package sig

import "maps"

// table keeps a value for each of its keys; one that was given nothing is empty.
type table[K comparable, V any] struct{ held map[K]V }

// get answers the value of a key, if it has one.
func (t *table[K, V]) get(key K) (V, bool) {
	v, ok := t.held[key]
	return v, ok
}

// put gives a key its value; false (and nothing is changed), if it has one already.
func (t *table[K, V]) put(key K, value V) bool {
	if _, ok := t.held[key]; ok {
		return false
	}
	if t.held == nil {
		t.held = map[K]V{}
	}
	t.held[key] = value
	return true
}

// meets tells whether a key of more has a value here.
func (t *table[K, V]) meets(more table[K, V]) bool {
	for key := range more.held {
		if _, ok := t.held[key]; ok {
			return true
		}
	}
	return false
}

// join puts all of more, none of whose keys has a value here.
func (t *table[K, V]) join(more table[K, V]) {
	for key, value := range more.held {
		t.put(key, value)
	}
}

// copied answers a table of its own, of the same keys and values.
func (t *table[K, V]) copied() table[K, V] { return table[K, V]{maps.Clone(t.held)} }
