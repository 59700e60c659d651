package txn

import (
	"math"

	"vellum/api"
	"vellum/index"
)

// Info is what is known of a transaction that is active.
func (d *DB) Info(txn int) (api.Info, api.Errno) {
	if !d.given() {
		return api.Info{}, api.ErrArg
	}
	d.lock.RLock()
	defer d.lock.RUnlock()
	x, err := d.transaction(txn)
	if err != api.OK {
		return api.Info{}, err
	}
	return api.Info{Level: x.level, Snapshot: d.snapshot(x), Saves: x.saves, Writes: x.rows(), Reads: x.alone}, api.OK
}

// Foot is what an active transaction read and wrote, so far.
func (d *DB) Foot(txn int) (api.Foot, api.Errno) {
	if !d.given() {
		return api.Foot{}, api.ErrArg
	}
	d.lock.RLock()
	defer d.lock.RUnlock()
	x, err := d.transaction(txn)
	if err != api.OK {
		return api.Foot{}, err
	}
	return x.foot.whole(), api.OK
}

// Latest is the rows that have, or had, a key of a range in an index, in the order of their entries.
func (d *DB) Latest(table, index int, r api.Range) ([]api.Held, api.Errno) {
	if !d.given() {
		return nil, api.ErrArg
	}
	d.lock.RLock()
	defer d.lock.RUnlock()
	t, x, err := d.find(table, index)
	if err != api.OK {
		return nil, err
	}
	var l []api.Held
	met := map[int]struct{}{}
	for _, h := range x.Find(r, false, math.MaxInt) {
		if _, again := met[h.Slot]; again {
			continue
		}
		met[h.Slot] = struct{}{}
		l = append(l, api.Held{Slot: h.Slot, Versions: t.store.Versions(h.Slot), Intent: t.store.Intent(h.Slot)})
	}
	return l, api.OK
}

// Entries is the entries of an index whose keys are in a range, rising.
func (d *DB) Entries(table, index int, r api.Range) ([]api.Hit, api.Errno) {
	if !d.given() {
		return nil, api.ErrArg
	}
	d.lock.RLock()
	defer d.lock.RUnlock()
	_, x, err := d.find(table, index)
	if err != api.OK {
		return nil, err
	}
	return x.Find(r, false, math.MaxInt), api.OK
}

// find is a table and an index of it, by their numbers.
func (d *DB) find(tableNumber, indexNumber int) (*table, *index.Index, api.Errno) {
	t, err := d.table(tableNumber)
	if err != api.OK {
		return nil, nil, err
	}
	x, err := t.index(indexNumber)
	if err != api.OK {
		return nil, nil, err
	}
	return t, x, api.OK
}

// At is a table's rows as they were at a stamp, in the order of their keys.
func (d *DB) At(table int, stamp uint64) ([][]api.Value, api.Errno) {
	if !d.given() {
		return nil, api.ErrArg
	}
	d.lock.RLock()
	defer d.lock.RUnlock()
	t, err := d.table(table)
	if err != api.OK {
		return nil, err
	}
	if err := d.mayRead(stamp); err != api.OK {
		return nil, err
	}
	seen := t.indexes[0].Look(t.store, api.View{Stamp: stamp}, api.Range{Open: true}, false, math.MaxInt)
	rows := make([][]api.Value, len(seen))
	for i, s := range seen {
		rows[i] = s.Row
	}
	return rows, api.OK
}
