package guard_test

import (
	"slices"

	"vellum/api"
	"vellum/code"
	"vellum/txn"
	"vellum/value"
)

// plainGuard is the words of the chapter, one by one, over a database of its own: all slots of a table are gone through each time, all that is noted is asked for by layer 20.
type plainGuard struct {
	d    *txn.DB
	tabs []api.Table
}

func newPlain(l []api.Table) *plainGuard {
	d, _ := txn.New(l)
	return &plainGuard{d: d, tabs: l}
}

func picked(l []api.Value, columns []int) []api.Value {
	var out []api.Value
	for _, c := range columns {
		out = append(out, l[c])
	}
	return out
}

func someNull(l []api.Value) bool {
	for _, v := range l {
		if v.Kind == api.KindNull {
			return true
		}
	}
	return false
}

// sameValues is by Compare.
func sameValues(a, b []api.Value) bool {
	return slices.EqualFunc(a, b, func(v, w api.Value) bool { return value.Compare(v, w) == 0 })
}

// sameIn is that two rows are the same in an index.
func sameIn(columns []int, a, b []api.Value) bool {
	x, y := picked(a, columns), picked(b, columns)
	return !someNull(x) && !someNull(y) && sameValues(x, y)
}

// refers is that a row refers to a key.
func refers(columns []int, l, key []api.Value) bool {
	to := picked(l, columns)
	return !someNull(to) && sameValues(to, key)
}

// sees is what a transaction sees of a slot.
func (p *plainGuard) sees(x int, h api.Held) ([]api.Value, bool) {
	if h.Intent.Txn == x {
		last := h.Intent.Writes[len(h.Intent.Writes)-1]
		return last.Row, !last.Gone
	}
	info, _ := p.d.Info(x)
	for _, v := range h.Versions {
		if v.Stamp <= info.Snapshot {
			return v.Row, !v.Gone
		}
	}
	return nil, false
}

// there is what is there of a slot.
func (p *plainGuard) there(x int, h api.Held) [][]api.Value {
	if h.Intent.Txn == x {
		if l, seen := p.sees(x, h); seen {
			return [][]api.Value{l}
		}
		return nil
	}
	var l [][]api.Value
	if len(h.Versions) > 0 && !h.Versions[0].Gone {
		l = append(l, h.Versions[0].Row)
	}
	for _, w := range h.Intent.Writes {
		if !w.Gone {
			l = append(l, w.Row)
		}
	}
	return l
}

func (p *plainGuard) slots(table int) []api.Held {
	l, _ := p.d.Latest(table, -1, api.Range{Open: true})
	return l
}

// slot is the one to which a key leads; -1: to none.
func (p *plainGuard) slot(table int, key []api.Value) int {
	k, _ := code.Encode(key)
	hits, _ := p.d.Entries(table, -1, api.Range{Open: true})
	for _, h := range hits {
		if h.Key == k {
			return h.Slot
		}
	}
	return -1
}

// held is a slot as it is there.
func (p *plainGuard) held(table, slot int) (api.Held, bool) {
	for _, h := range p.slots(table) {
		if h.Slot == slot {
			return h, true
		}
	}
	return api.Held{}, false
}

// others is: whether a row that is seen in other slots is of a kind; whether one that is there is, in a slot that is not another one's; and whether one is in one that is.
func (p *plainGuard) others(x, table int, but []int, is func(l []api.Value) bool) (seen, own, anothers bool) {
	for _, h := range p.slots(table) {
		if slices.Contains(but, h.Slot) {
			continue
		}
		if l, some := p.sees(x, h); some && is(l) {
			seen = true
		}
		for _, l := range p.there(x, h) {
			if !is(l) {
				continue
			}
			if h.Intent.Txn != 0 && h.Intent.Txn != x {
				anothers = true
			} else {
				own = true
			}
		}
	}
	return seen, own, anothers
}

func (p *plainGuard) notes(x, table, index int, r api.Range) api.Errno {
	_, err := p.d.Scan(x, table, api.Scan{Index: index, Range: r, Most: many})
	return err
}

// write is a write of a kind: 0 inserts, 1 updates, 2 deletes.
func (p *plainGuard) write(kind, x, table int, k, l []api.Value) told {
	if err := try20(p.d, kind, x, table, k, l); err != api.OK {
		return only(err)
	}
	info, _ := p.d.Info(x)
	tab := p.tabs[table]
	var old []api.Value
	var but []int
	if kind != 0 {
		h, _ := p.held(table, p.slot(table, k))
		old, _ = p.sees(x, h)
		but = append(but, h.Slot)
	}
	if kind != 2 {
		k2 := picked(l, tab.Key)
		but = append(but, p.slot(table, k2))
		if kind == 0 {
			k = k2
		}
	}
	moved := kind == 1 && !sameValues(k, picked(l, tab.Key))
	for n, i := range tab.Indexes {
		if kind == 2 || !i.Unique || kind == 1 && sameIn(i.Columns, old, l) {
			continue
		}
		if values := picked(l, i.Columns); info.Level == serial && !someNull(values) {
			r, _ := code.Begins(values)
			if err := p.notes(x, table, n, r); err != api.OK {
				return only(err)
			}
		}
		seen, own, anothers := p.others(x, table, but, func(other []api.Value) bool { return sameIn(i.Columns, other, l) })
		if seen || own {
			return unique(api.ErrUnique, table, n)
		}
		if anothers {
			return unique(api.ErrBusy, table, n)
		}
	}
	for n := range tab.Refs {
		if kind == 2 {
			continue
		}
		if got := p.out(x, table, n, old, k, l, kind == 1, moved); got != ok {
			return got
		}
	}
	if kind == 2 || moved {
		for from := range p.tabs {
			for n := range p.tabs[from].Refs {
				if got := p.in(x, table, k, from, n); got != ok {
					return got
				}
			}
		}
	}
	return only(layer20(p.d, kind, x, table, k, l))
}

// out is what is told of a reference of a table, by which a new row may refer to a key; updates and moved are that it stands for an old one, and has another key than that.
func (p *plainGuard) out(x, table, n int, old, k, l []api.Value, updates, moved bool) told {
	ref := p.tabs[table].Refs[n]
	to := picked(l, ref.Columns)
	if someNull(to) || updates && !moved && sameValues(picked(old, ref.Columns), to) {
		return ok
	}
	if _, err := code.Encode(to); err != api.OK {
		return out(api.ErrForeign, table, n)
	}
	info, _ := p.d.Info(x)
	parent := slices.IndexFunc(p.tabs, func(t api.Table) bool { return t.Name == ref.Table })
	if info.Level == serial {
		if _, _, err := p.d.Get(x, parent, to); err != api.OK {
			return only(err)
		}
	}
	if parent == table && sameValues(to, picked(l, p.tabs[table].Key)) {
		return ok
	}
	h, some := p.held(parent, p.slot(parent, to))
	_, seen := p.sees(x, h)
	switch {
	case !some || !seen || moved && parent == table && sameValues(to, k):
		return out(api.ErrForeign, table, n)
	case h.Intent.Txn != 0 && h.Intent.Txn != x:
		return out(api.ErrBusy, table, n)
	case info.Level != committed && h.Intent.Txn != x && len(h.Versions) > 0 && h.Versions[0].Stamp > info.Snapshot:
		return out(api.ErrNewer, table, n)
	}
	return ok
}

// in is what is told of a reference of a table that leads to another one, of which the row of a key goes.
func (p *plainGuard) in(x, table int, k []api.Value, from, n int) told {
	ref := p.tabs[from].Refs[n]
	if ref.Table != p.tabs[table].Name {
		return ok
	}
	if info, _ := p.d.Info(x); info.Level == serial {
		if err := p.notes(x, from, -1, api.Range{Open: true}); err != api.OK {
			return only(err)
		}
	}
	var but []int
	if from == table {
		but = []int{p.slot(table, k)}
	}
	seen, own, anothers := p.others(x, from, but, func(l []api.Value) bool { return refers(ref.Columns, l, k) })
	if seen || own {
		return in(api.ErrForeign, from, n)
	}
	if anothers {
		return in(api.ErrBusy, from, n)
	}
	return ok
}

// broken is what is not as it must be, row held against row.
func (p *plainGuard) broken(table int, stamp uint64) ([]api.Broken, api.Errno) {
	rows, err := p.d.At(table, stamp)
	if err != api.OK {
		return nil, err
	}
	tab := p.tabs[table]
	var l []api.Broken
	for i, r := range rows {
		key, _ := code.Encode(picked(r, tab.Key))
		for n, x := range tab.Indexes {
			ahead := slices.ContainsFunc(rows[:i], func(other []api.Value) bool { return sameIn(x.Columns, other, r) })
			if x.Unique && ahead {
				l = append(l, api.Broken{Table: table, Kind: api.BrokenUnique, N: n, Key: key})
			}
		}
		for n, ref := range tab.Refs {
			parent := slices.IndexFunc(p.tabs, func(t api.Table) bool { return t.Name == ref.Table })
			parents, _ := p.d.At(parent, stamp)
			to := picked(r, ref.Columns)
			there := slices.ContainsFunc(parents, func(other []api.Value) bool { return sameValues(picked(other, p.tabs[parent].Key), to) })
			if !someNull(to) && !there {
				l = append(l, api.Broken{Table: table, Kind: api.BrokenOut, N: n, Key: key})
			}
		}
	}
	return l, api.OK
}
