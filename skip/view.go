package skip

import "vellum/api"

// view is a list as it is while a step is the last one: behind that, or, where the step itself is worked out, ahead of it.
type view struct {
	list *List
	step *step
}

// now is the list as it is now: what the last step changes is changed.
func (l *List) now() view {
	last := l.last.Load()
	l.finish(last)
	return view{l, last}
}

// holds tells whether the list is still as it was: if not, what was read may be of unlike times.
func (v view) holds() bool {
	return v.list.last.Load() == v.step
}

// behind is what stands behind a node on a level; nil: nothing does, or the view does not hold any more. (What is read is not told then. So whoever goes over the list ends soon, however fast others put more ahead of it.)
func (v view) behind(x *node, level int) *node {
	if !v.holds() {
		return nil
	}
	return x.links[level].Load().to
}

// path has for each level the last node that stands ahead of a key.
type path [api.MaxHeight]*node

func (v view) path(key string) path {
	var p path
	x := v.list.head
	for level := api.MaxHeight - 1; level >= 0; level-- {
		for y := v.behind(x, level); y != nil && y.key < key; y = v.behind(y, level) {
			x = y
		}
		p[level] = x
	}
	return p
}

// behindPath is the key's node, if the key is there, from its path.
func (v view) behindPath(p path, key string) *node {
	x := v.behind(p[0], 0)
	if x == nil || x.key != key {
		return nil
	}
	return x
}

// find is the key's node; nil: the key is not there.
func (v view) find(key string) *node {
	return v.behindPath(v.path(key), key)
}

// seek is the first node from a key on, or, back, the last one up to it.
func (v view) seek(key string, back bool) *node {
	ahead := v.path(key)[0]
	x := v.behind(ahead, 0)
	switch {
	case !back || x != nil && x.key == key:
		return x
	case ahead == v.list.head:
		return nil
	}
	return ahead
}

func (v view) levels() [][]string {
	var all [][]string
	for level := range api.MaxHeight {
		keys := v.level(level)
		if len(keys) == 0 {
			break
		}
		all = append(all, keys)
	}
	return all
}

func (v view) level(level int) []string {
	var keys []string
	for x := v.behind(v.list.head, level); x != nil; x = v.behind(x, level) {
		keys = append(keys, x.key)
	}
	return keys
}

// found is an entry, if one is there.
type found struct {
	entry api.Entry
	there bool
}

func entryOf(x *node) found {
	if x == nil {
		return found{}
	}
	return found{x.entry(), true}
}

func (x *node) entry() api.Entry {
	return api.Entry{Key: x.key, Value: *x.value.Load(), Height: len(x.links)}
}
