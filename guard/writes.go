package guard

import "vellum/api"

// wish is a write that is asked for. An Insert has no key, and a Delete no row.
type wish struct {
	txn   int
	table int
	key   []api.Value
	row   []api.Value
	// try tells what layer 20 would refuse of it, and do lets layer 20 write it.
	try func() api.Errno
	do  func() api.Errno
}

// Insert writes a row whose key nobody has.
func (g *Guard) Insert(txn, table int, row []api.Value) (api.Broken, api.Errno) {
	return g.write(wish{
		txn:   txn,
		table: table,
		row:   row,
		try:   func() api.Errno { return g.db.TryInsert(txn, table, row) },
		do:    func() api.Errno { return g.db.Insert(txn, table, row) },
	})
}

// Update writes another row in the place of one.
func (g *Guard) Update(txn, table int, key, row []api.Value) (api.Broken, api.Errno) {
	return g.write(wish{
		txn:   txn,
		table: table,
		key:   key,
		row:   row,
		try:   func() api.Errno { return g.db.TryUpdate(txn, table, key, row) },
		do:    func() api.Errno { return g.db.Update(txn, table, key, row) },
	})
}

// Delete lets the row of a key be gone.
func (g *Guard) Delete(txn, table int, key []api.Value) (api.Broken, api.Errno) {
	return g.write(wish{
		txn:   txn,
		table: table,
		key:   key,
		try:   func() api.Errno { return g.db.TryDelete(txn, table, key) },
		do:    func() api.Errno { return g.db.Delete(txn, table, key) },
	})
}

func (g *Guard) write(w wish) (api.Broken, api.Errno) {
	if !g.given() {
		return api.Broken{}, api.ErrArg
	}
	g.lock.Lock()
	defer g.lock.Unlock()
	if err := w.try(); err != api.OK {
		return api.Broken{}, err
	}
	a, err := g.asking(w)
	if err != api.OK {
		return api.Broken{}, err
	}
	if b, err := a.breaks(); err != api.OK {
		return b, err
	}
	return api.Broken{}, w.do()
}
