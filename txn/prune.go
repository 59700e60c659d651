package txn

import "vellum/api"

// Horizon is the greatest stamp at which, and behind which, nothing that anybody reads goes if Prune is asked for it.
func (d *DB) Horizon() uint64 {
	if !d.given() {
		return 0
	}
	d.lock.RLock()
	defer d.lock.RUnlock()
	return d.horizon()
}

func (d *DB) horizon() uint64 {
	frontier := d.clock.Frontier()
	if least, some := d.snaps.Least(); some {
		return min(least, frontier)
	}
	return frontier
}

// Prune raises the floor to a stamp, as far as readers let it, and takes what nobody can see any more.
func (d *DB) Prune(to uint64) (api.Pruned, api.Errno) {
	if !d.given() {
		return api.Pruned{}, api.ErrArg
	}
	d.lock.Lock()
	defer d.lock.Unlock()
	floor := d.snaps.Raise(min(to, d.horizon()))
	var all api.Pruned
	for _, t := range d.tables {
		versions, rows := t.store.Prune(floor)
		all.Versions += versions
		all.Rows += len(rows)
		if versions > 0 {
			t.loose = true // those of a row that has an intent have left their entries
			all.Entries += d.sweep(t)
		}
	}
	return all, api.OK
}

// sweep takes the entries of a table out that nothing keeps any more: how many. It is called wherever rows have lost intents or versions, or may be there no more: so in all other tables, and at all other times, there is none.
func (d *DB) sweep(t *table) int {
	went := 0
	for _, x := range t.indexes {
		went += x.Sweep(t.store)
	}
	t.rows = len(t.store.Slots())
	t.loose = t.loose && d.isWritten(t)
	return went
}

// isWritten tells whether some row of a table has an intent.
func (d *DB) isWritten(t *table) bool {
	for _, x := range d.active {
		if len(x.wrote[t.number]) > 0 {
			return true
		}
	}
	return false
}
