package skip

import "sync/atomic"

// node is a key on the levels on which it stands.
type node struct {
	key   string
	value atomic.Pointer[int64]
	// links has what stands behind it, level by level, from the lowest one on.
	links []atomic.Pointer[link]
}

// link leads to the node that stands behind another one on a level; to nil, where none does. Nodes come and go again, so that it may lead to what an earlier one led to; but it is a new one then.
type link struct {
	to *node
}

// newNode has no links yet.
func newNode(key string, value int64, height int) *node {
	x := &node{key: key, links: make([]atomic.Pointer[link], height)}
	x.value.Store(&value)
	return x
}

// newHead is a node of no key, with nothing behind it.
func newHead(height int) *node {
	x := newNode("", 0, height)
	for level := range x.links {
		x.links[level].Store(&link{})
	}
	return x
}

// swing is a pointer that a step moves on, from one thing to another that is new and never lay there: so however many do a swing, and however late, it is done once.
type swing[T any] struct {
	place    *atomic.Pointer[T]
	from, to *T
}

func (s swing[T]) do() {
	s.place.CompareAndSwap(s.from, s.to)
}
