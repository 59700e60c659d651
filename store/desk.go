package store

import "sync"

// deskCount is how many there are: so many transactions, with numbers in a row, do not wait for one another.
const deskCount = 64

// desk is where the calls of some transactions stand in line, so that what a transaction wrote is changed by one call of its own at a time. Other ones' calls go on beside it.
type desk struct {
	lock sync.Mutex
	// wrote has the slots of the rows whose intent is a transaction's: so its calls need not go over all rows.
	wrote map[int][]int
}

func (s *Store) desk(txn int) *desk {
	return &s.desks[uint(txn)%deskCount]
}

// note adds a slot to those that a transaction wrote.
func (d *desk) note(txn, slot int) {
	if d.wrote == nil {
		d.wrote = map[int][]int{}
	}
	d.wrote[txn] = append(d.wrote[txn], slot)
}

// keep lets a transaction have written these alone.
func (d *desk) keep(txn int, slots []int) {
	if len(slots) == 0 {
		delete(d.wrote, txn)
		return
	}
	d.wrote[txn] = slots
}
