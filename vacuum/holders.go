package vacuum

import (
	"vellum/api"
	"vellum/txn"
)

// reader is an active transaction, as it is known.
type reader struct {
	txn  int
	info api.Info
}

// holdsSnapshot tells whether it reads at one stamp from its begin on.
func (r reader) holdsSnapshot() bool { return r.info.Level != api.LevelCommitted }

// Holders is the transactions that hold the horizon.
func Holders(d *txn.DB) ([]int, api.Errno) {
	if !isMade(d) {
		return nil, api.ErrArg
	}
	horizon := d.Horizon()
	if horizon >= d.Frontier() {
		return nil, api.OK
	}
	var holders []int
	for _, r := range readersOf(d) {
		if r.holdsSnapshot() && r.info.Snapshot == horizon {
			holders = append(holders, r.txn)
		}
	}
	return holders, api.OK
}

// Old is the transactions whose snapshots lie so many commits back, or more.
func Old(d *txn.DB, age uint64) ([]int, api.Errno) {
	if !isMade(d) {
		return nil, api.ErrArg
	}
	readers := readersOf(d)
	frontier := d.Frontier() // asked for behind them: so none of their snapshots is above it
	var old []int
	for _, r := range readers {
		if r.age(frontier) >= age {
			old = append(old, r.txn)
		}
	}
	return old, api.OK
}

func (r reader) age(frontier uint64) uint64 {
	if !r.holdsSnapshot() {
		return 0
	}
	return frontier - r.info.Snapshot
}

// readersOf is the active transactions of a database, rising.
func readersOf(d *txn.DB) []reader {
	var l []reader
	for _, x := range d.Active() {
		if info, err := d.Info(x); err == api.OK { // else it has ended since
			l = append(l, reader{txn: x, info: info})
		}
	}
	return l
}
