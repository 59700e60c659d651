package skip

// putting lets a key have a value; a new one stands on so many levels.
func putting(key string, value int64, height int) work {
	return func(v view) *change {
		p := v.path(key)
		x := v.behindPath(p, key)
		if x == nil {
			return v.adds(p, newNode(key, value, height))
		}
		c := v.finds(x)
		from, to := x.value.Load(), value
		c.values = []swing[int64]{{&x.value, from, &to}}
		return c
	}
}

// adding is putting, of a key that is not there.
func adding(key string, value int64, height int) work {
	return func(v view) *change {
		p := v.path(key)
		if x := v.behindPath(p, key); x != nil {
			return v.finds(x)
		}
		return v.adds(p, newNode(key, value, height))
	}
}

func deleting(key string) work {
	return func(v view) *change {
		p := v.path(key)
		x := v.behindPath(p, key)
		c := v.finds(x)
		if x != nil {
			c.count--
			c.links = without(p, x)
		}
		return c
	}
}

func getting(key string) work {
	return func(v view) *change { return v.finds(v.find(key)) }
}

// finds is a change of nothing, that tells what a key has.
func (v view) finds(x *node) *change {
	c := &change{count: v.step.count}
	if x != nil {
		c.was, c.there = *x.value.Load(), true
	}
	return c
}

// adds is the change by which a node comes behind those of its path. Nobody knows of it yet: so what stands behind it is stored at once.
func (v view) adds(p path, x *node) *change {
	c := &change{count: v.step.count + 1}
	for level := range x.links {
		place := &p[level].links[level]
		from := place.Load()
		x.links[level].Store(&link{from.to})
		c.links = append(c.links, swing[link]{place, from, &link{x}})
	}
	return c
}

// without is the swings past a node that goes. What stands behind it stays, for those who are on it.
func without(p path, x *node) []swing[link] {
	var l []swing[link]
	for level := range x.links {
		place := &p[level].links[level]
		l = append(l, swing[link]{place, place.Load(), &link{x.links[level].Load().to}})
	}
	return l
}
