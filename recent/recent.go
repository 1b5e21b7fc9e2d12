// Package recent keeps values in the order of their use.
package recent

// node is a value in its place between the one that was used next, and the one that was used before.
type node[K comparable, V any] struct {
	key          K
	value        V
	newer, older *node[K, V]
}

// List keeps values by their keys. When there are more than it has room for, the one that was not used for longest is left.
type List[K comparable, V any] struct {
	room  int
	nodes map[K]*node[K, V]
	// ends closes the values to a ring, so that none of them is without neighbours: its older one was used last, its newer one is the next to be left.
	ends *node[K, V]
}

// New makes a list with room for so many values.
func New[K comparable, V any](room int) *List[K, V] {
	ends := &node[K, V]{}
	ends.newer, ends.older = ends, ends
	return &List[K, V]{room: room, nodes: map[K]*node[K, V]{}, ends: ends}
}

// Get looks for a value, which is used by that.
func (l *List[K, V]) Get(key K) (V, bool) {
	n, ok := l.nodes[key]
	if !ok {
		var none V
		return none, false
	}
	n.takeOut()
	l.putFirst(n)
	return n.value, true
}

// Add keeps a value of a key that the list has not.
func (l *List[K, V]) Add(key K, value V) {
	n := &node[K, V]{key: key, value: value}
	l.nodes[key] = n
	l.putFirst(n)
	if len(l.nodes) > l.room {
		last := l.ends.newer
		last.takeOut()
		delete(l.nodes, last.key)
	}
}

// takeOut closes the ring over a node.
func (n *node[K, V]) takeOut() { n.newer.older, n.older.newer = n.older, n.newer }

// putFirst lays a node into the ring as the one that was used last.
func (l *List[K, V]) putFirst(n *node[K, V]) {
	n.newer, n.older = l.ends, l.ends.older
	n.newer.older, n.older.newer = n, n
}
