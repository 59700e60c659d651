package txn

import "vellum/api"

// The kinds of writes.
const (
	wishInsert = iota
	wishUpdate
	wishDelete
)

// wish is a write that is asked for. An Insert has no key, and a Delete no row.
type wish struct {
	kind  int
	table int
	key   []api.Value
	row   []api.Value
}

// plan is a write that nothing stands in the way of: row by row what is to be done.
type plan struct {
	by    *transaction
	table *table
	steps []step
	// writes is the points that it writes.
	writes []api.Point
}

// step is that a row is gone, or another one is in its place.
type step struct {
	aim
	gone bool
	row  []api.Value
}

// aim is the slot of a key, and what a transaction sees there.
type aim struct {
	// there is that the key has a slot.
	there bool
	slot  int
	// own is that the row has an intent of the transaction.
	own  bool
	seen bool
	row  []api.Value
}

// noted is what is noted of a write.
func (p plan) noted() api.Foot {
	return api.Foot{Writes: p.writes}
}

// plan is what a write would do, or why it is refused. What a serializable one reads for it is noted.
func (d *DB) plan(txn int, w wish) (plan, api.Errno) {
	x, err := d.transaction(txn)
	if err != api.OK {
		return plan{}, err
	}
	if x.alone {
		return plan{}, api.ErrReads
	}
	t, err := d.table(w.table)
	if err != api.OK {
		return plan{}, err
	}
	key, keys, err := t.keysOf(w)
	if err != api.OK {
		return plan{}, err
	}
	if err := x.read(asked(t, key, keys)); err != api.OK {
		return plan{}, err
	}
	steps, err := d.steps(x, t, w, key, keys)
	if err != api.OK {
		return plan{}, err
	}
	p := plan{by: x, table: t, steps: steps, writes: t.writes(steps, keys)}
	return p, p.fits()
}

// keysOf is the key by which a write looks for its row, and the keys of the row that it writes (none, if that is gone).
func (t *table) keysOf(w wish) (string, []string, api.Errno) {
	var key string
	var keys []string
	err := api.OK
	if w.kind != wishInsert {
		key, err = t.key(w.key)
	}
	if err == api.OK && w.kind != wishDelete {
		keys, err = t.keys(w.row)
	}
	if err == api.OK && w.kind == wishInsert {
		key = keys[0]
	}
	return key, keys, err
}

// asked is what is read for a write: the point of its key, and that of the row that it writes, if that is another one.
func asked(t *table, key string, keys []string) api.Foot {
	f := api.Foot{Points: []api.Point{t.point(key)}}
	if len(keys) > 0 && keys[0] != key {
		f.Points = append(f.Points, t.point(keys[0]))
	}
	return f
}

// steps is what a write does of which rows.
func (d *DB) steps(x *transaction, t *table, w wish, key string, keys []string) ([]step, api.Errno) {
	at, err := d.aim(x, t, key)
	switch {
	case err != api.OK:
		return nil, err
	case w.kind == wishInsert && at.seen:
		return nil, api.ErrExists
	case w.kind != wishInsert && !at.seen:
		return nil, api.ErrMissing
	case w.kind == wishDelete:
		return []step{{aim: at, gone: true}}, api.OK
	case keys[0] == key:
		return []step{{aim: at, row: w.row}}, api.OK
	}
	other, err := d.aim(x, t, keys[0])
	if err != api.OK {
		return nil, err
	}
	if other.seen {
		return nil, api.ErrExists
	}
	return []step{{aim: at, gone: true}, {aim: other, row: w.row}}, api.OK
}

// aim is the slot of a key, if nothing stands in the way of a transaction that would write there.
func (d *DB) aim(x *transaction, t *table, key string) (aim, api.Errno) {
	slot, there := t.slot(key)
	if !there {
		return aim{}, api.OK
	}
	by := t.store.Intent(slot).Txn
	switch {
	case by != 0 && by != x.number:
		return aim{}, api.ErrBusy
	case by == 0 && d.isNewer(x, t, slot):
		return aim{}, api.ErrNewer
	}
	row, seen := t.store.Read(slot, x.number, d.snapshot(x))
	return aim{there: true, slot: slot, own: by == x.number, seen: seen, row: row}, api.OK
}

// isNewer tells whether a row has a version that a transaction does not see yet.
func (d *DB) isNewer(x *transaction, t *table, slot int) bool {
	snapshot := d.snapshot(x)
	// Mostly nobody has committed since: then the row's versions, which may be many, need not be gone through.
	if snapshot == d.clock.Frontier() {
		return false
	}
	versions := t.store.Versions(slot)
	return len(versions) > 0 && versions[0].Stamp > snapshot
}

// writes is the points of the rows that steps find, and of the one that they write, which has these keys.
func (t *table) writes(steps []step, keys []string) []api.Point {
	var l []api.Point
	for _, s := range steps {
		if s.seen {
			found, _ := t.keys(s.aim.row)
			l = append(l, t.points(found)...)
		}
		if !s.gone {
			l = append(l, t.points(keys)...)
		}
	}
	return l
}

// fits tells whether there is room for what a plan notes, and for a new row.
func (p plan) fits() api.Errno {
	for _, s := range p.steps {
		if !s.there && p.table.isFull() {
			return api.ErrFull
		}
	}
	return p.by.foot.may(p.noted())
}
