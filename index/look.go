package index

import (
	"vellum/api"
	"vellum/code"
	"vellum/store"
)

// tries is how often a look is tried beside those who put: behind that they wait for it. Else one that goes far might never get through.
const tries = 3

// stretch is how many entries a look goes over at least, ahead of asking for more: of few that are wanted none may be seen through the first ones.
const stretch = 16

// Look is the rows that are seen through the entries of a range.
func (x *Index) Look(s *store.Store, v api.View, r api.Range, back bool, most int) []api.Seen {
	if !x.given() || most < 1 {
		return nil
	}
	s = orEmpty(s)
	for range tries {
		if l, whole := x.look(s, v, r, back, most); whole {
			return l
		}
	}
	x.lock.Lock()
	defer x.lock.Unlock()
	l, _ := x.look(s, v, r, back, most)
	return l
}

// look is Look; false, if an entry came meanwhile: a row that has got its key since may be missing then. (While others look no entry goes: so if there are as many as there were, they are the same.)
func (x *Index) look(s *store.Store, v api.View, r api.Range, back bool, most int) ([]api.Seen, bool) {
	entries := x.list.Len()
	g := glance{index: x, store: s, view: v, most: most, met: map[int]met{}}
	for {
		want := max(most-len(g.told), stretch)
		l := x.list.Scan(r, back, want)
		g.over(l)
		switch {
		case x.list.Len() != entries:
			return nil, false
		case len(g.told) == most || len(l) < want:
			return g.told, true
		}
		r = rest(r, l[len(l)-1].Key, back)
	}
}

// rest is the keys of a range behind one of them; back: ahead of it.
func rest(r api.Range, key string, back bool) api.Range {
	if back {
		return api.Range{Lo: r.Lo, Hi: key}
	}
	r.Lo = code.Point(key).Hi
	return r
}

// glance is what one look has seen so far.
type glance struct {
	index *Index
	store *store.Store
	view  api.View
	most  int
	told  []api.Seen
	// met has what was read of each slot: of a row with several keys all its entries go by one reading, so that it is told once, whatever is written meanwhile.
	met map[int]met
}

// met is a row that the view reads, and its key; that is empty, as no entry's is, if it reads none, or one that has no key.
type met struct {
	row []api.Value
	key string
}

// over tells the rows that are seen through entries, till there are enough.
func (g *glance) over(l []api.Entry) {
	for _, e := range l {
		if len(g.told) == g.most {
			return
		}
		slot := int(e.Value)
		if m := g.meet(slot); m.key == e.Key {
			g.told = append(g.told, api.Seen{Slot: slot, Key: e.Key, Row: m.row})
		}
	}
}

func (g *glance) meet(slot int) met {
	if m, again := g.met[slot]; again {
		return m
	}
	var m met
	if row, there := g.store.Read(slot, g.view.Txn, g.view.Stamp); there {
		key, _ := g.index.key(row)
		m = met{row, key}
	}
	g.met[slot] = m
	return m
}
