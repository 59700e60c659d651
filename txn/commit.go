package txn

import "vellum/api"

// Commit commits: the stamp.
func (d *DB) Commit(txn int) (uint64, api.Errno) {
	if !d.given() {
		return 0, api.ErrArg
	}
	d.lock.Lock()
	defer d.lock.Unlock()
	x, err := d.transaction(txn)
	if err != api.OK {
		return 0, err
	}
	if x.rows() == 0 {
		stamp := d.snapshot(x)
		d.decide(x, stamp)
		return stamp, api.OK
	}
	if d.isStale(x) {
		d.abort(x)
		return 0, api.ErrSerial
	}
	if d.clock.Frontier()-d.oldest() >= api.MaxLog {
		return 0, api.ErrFull
	}
	stamp, err := d.clock.Take()
	if err != api.OK {
		return 0, err
	}
	d.settle(x, stamp)
	return stamp, api.OK
}

// isStale tells whether a serializable one read what a commit that it did not see wrote.
func (d *DB) isStale(x *transaction) bool {
	if x.level != api.LevelSerial {
		return false
	}
	_, met := d.log.Read(x.foot.whole(), x.begun)
	return met
}

// settle lets all that a transaction wrote be committed at a stamp that was taken.
func (d *DB) settle(x *transaction, stamp uint64) {
	written := d.written(x)
	for _, t := range written {
		t.store.Settle(x.number, stamp)
	}
	d.clock.Done(stamp)
	d.decide(x, stamp)
	if d.oldest() < stamp {
		d.log.Note(stamp, api.Foot{Writes: x.foot.whole().Writes})
	}
	for _, t := range written {
		if t.loose {
			d.sweep(t)
		}
	}
}

// decide lets a transaction be committed at a stamp, or aborted, at 0, and ends it. (Who wrote nothing may commit at 0, too, which is no stamp to layer 9; but that is not asked for it again.)
func (d *DB) decide(x *transaction, stamp uint64) {
	d.states.Prepare(x.number)
	if stamp == 0 {
		d.states.Abort(x.number)
	} else {
		d.states.Commit(x.number, stamp)
	}
	d.states.Forget(x.number)
	d.end(x)
}

// Abort takes all back that a transaction wrote.
func (d *DB) Abort(txn int) api.Errno {
	if !d.given() {
		return api.ErrArg
	}
	d.lock.Lock()
	defer d.lock.Unlock()
	x, err := d.transaction(txn)
	if err != api.OK {
		return err
	}
	d.abort(x)
	return api.OK
}

func (d *DB) abort(x *transaction) {
	d.takeBack(x, 0)
	d.decide(x, 0)
}
