package txn

import "vellum/api"

// Insert puts a row in that is not there.
func (d *DB) Insert(txn, table int, row []api.Value) api.Errno {
	return d.write(txn, wish{kind: wishInsert, table: table, row: row})
}

// Update lets the row with a key be another one.
func (d *DB) Update(txn, table int, key, row []api.Value) api.Errno {
	return d.write(txn, wish{kind: wishUpdate, table: table, key: key, row: row})
}

// Delete takes the row with a key out.
func (d *DB) Delete(txn, table int, key []api.Value) api.Errno {
	return d.write(txn, wish{kind: wishDelete, table: table, key: key})
}

// TryInsert tells what such a call would be refused for now.
func (d *DB) TryInsert(txn, table int, row []api.Value) api.Errno {
	return d.try(txn, wish{kind: wishInsert, table: table, row: row})
}

// TryUpdate tells what such a call would be refused for now.
func (d *DB) TryUpdate(txn, table int, key, row []api.Value) api.Errno {
	return d.try(txn, wish{kind: wishUpdate, table: table, key: key, row: row})
}

// TryDelete tells what such a call would be refused for now.
func (d *DB) TryDelete(txn, table int, key []api.Value) api.Errno {
	return d.try(txn, wish{kind: wishDelete, table: table, key: key})
}

func (d *DB) write(txn int, w wish) api.Errno {
	if !d.given() {
		return api.ErrArg
	}
	d.lock.Lock()
	defer d.lock.Unlock()
	p, err := d.plan(txn, w)
	if err == api.OK {
		d.do(p)
	}
	return err
}

// try shares the lock: what is noted of it has a lock of its own.
func (d *DB) try(txn int, w wish) api.Errno {
	if !d.given() {
		return api.ErrArg
	}
	d.lock.RLock()
	defer d.lock.RUnlock()
	_, err := d.plan(txn, w)
	return err
}

// do does what is planned. No layer below refuses any of it.
func (d *DB) do(p plan) {
	p.by.foot.note(p.noted())
	for _, s := range p.steps {
		d.step(p, s)
	}
}

func (d *DB) step(p plan, s step) {
	x, t := p.by, p.table
	w := api.Write{Level: x.saves, Gone: s.gone, Row: s.row}
	if !s.there {
		x.wrote[t.number] = append(x.wrote[t.number], t.add(x.number, w))
		return
	}
	t.store.Write(s.slot, x.number, w, d.snapshot(x))
	if !s.gone {
		t.enter(s.row, s.slot)
	}
	if s.own {
		t.loose = true // what it wrote there ahead of this may be nobody's then
		return
	}
	x.wrote[t.number] = append(x.wrote[t.number], s.slot)
}
