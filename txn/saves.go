package txn

import "vellum/api"

// Save sets a savepoint: its number.
func (d *DB) Save(txn int) (int, api.Errno) {
	if !d.given() {
		return 0, api.ErrArg
	}
	d.lock.Lock()
	defer d.lock.Unlock()
	x, err := d.transaction(txn)
	switch {
	case err != api.OK:
		return 0, err
	case x.alone:
		return 0, api.ErrReads
	case x.saves == api.MaxSaves:
		return 0, api.ErrFull
	}
	x.saves++
	return x.saves, api.OK
}

// Back takes back all that was written behind a savepoint, which stays.
func (d *DB) Back(txn, save int) api.Errno {
	return d.atSave(txn, save, func(x *transaction) {
		d.takeBack(x, save)
		x.saves = save
	})
}

// Release forgets a savepoint and those behind it; what was written stays.
func (d *DB) Release(txn, save int) api.Errno {
	return d.atSave(txn, save, func(x *transaction) {
		for _, t := range d.written(x) {
			t.store.Fold(x.number, save)
		}
		x.saves = save - 1
	})
}

// atSave does something with a transaction that has a savepoint.
func (d *DB) atSave(txn, save int, do func(x *transaction)) api.Errno {
	if !d.given() {
		return api.ErrArg
	}
	d.lock.Lock()
	defer d.lock.Unlock()
	x, err := d.transaction(txn)
	switch {
	case err != api.OK:
		return err
	case save < 1 || save > x.saves:
		return api.ErrSave
	}
	do(x)
	return api.OK
}

// takeBack takes back what a transaction wrote on a level and above it. There are entries to be swept only where rows have lost their intents.
func (d *DB) takeBack(x *transaction, level int) {
	for _, t := range d.written(x) {
		t.store.Back(x.number, level)
		if x.keep(t) {
			d.sweep(t)
		}
	}
}
