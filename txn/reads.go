package txn

import (
	"vellum/api"
	"vellum/cursor"
)

// Get is the row with a key; false: there is none.
func (d *DB) Get(txn, table int, key []api.Value) ([]api.Value, bool, api.Errno) {
	if !d.given() {
		return nil, false, api.ErrArg
	}
	d.lock.RLock()
	defer d.lock.RUnlock()
	x, err := d.transaction(txn)
	if err != api.OK {
		return nil, false, err
	}
	t, err := d.table(table)
	if err != api.OK {
		return nil, false, err
	}
	k, err := t.key(key)
	if err != api.OK {
		return nil, false, err
	}
	if err := x.read(api.Foot{Points: []api.Point{t.point(k)}}); err != api.OK {
		return nil, false, err
	}
	slot, there := t.slot(k)
	if !there {
		return nil, false, api.OK
	}
	row, seen := t.store.Read(slot, txn, d.snapshot(x))
	return row, seen, api.OK
}

// Scan is the rows of a scan.
func (d *DB) Scan(txn, table int, q api.Scan) ([]api.Seen, api.Errno) {
	if !d.given() {
		return nil, api.ErrArg
	}
	d.lock.RLock()
	defer d.lock.RUnlock()
	x, err := d.transaction(txn)
	if err != api.OK {
		return nil, err
	}
	t, err := d.table(table)
	if err != api.OK {
		return nil, err
	}
	return d.scan(x, t, q)
}

func (d *DB) scan(x *transaction, t *table, q api.Scan) ([]api.Seen, api.Errno) {
	index, err := t.index(q.Index)
	if err != api.OK {
		return nil, err
	}
	// What is refused here is refused for what was asked; what All refuses behind it, for a row: that was read.
	if _, err := cursor.Open(t.as, t.store, index, d.view(x), q); err != api.OK {
		return nil, err
	}
	rows, through, err := cursor.All(t.as, t.store, index, d.view(x), q)
	if err != api.OK {
		through = q.Range
	}
	span := api.Span{Table: t.number, Index: q.Index, Range: through}
	if err := x.read(api.Foot{Spans: []api.Span{span}}); err != api.OK {
		return nil, err
	}
	return rows, err
}
