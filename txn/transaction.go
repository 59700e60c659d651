package txn

import (
	"slices"

	"vellum/api"
)

// transaction is one that is active.
type transaction struct {
	number int
	level  int
	// begun is the frontier at its begin, or the stamp at which it reads alone. Who is of LevelCommitted does not go by it.
	begun uint64
	// reader is its slot among the readers, where all are but those of LevelCommitted.
	reader int
	alone  bool
	// saves is how many savepoints are set: they have the numbers from 1 on.
	saves int
	// wrote is, table by table, the slots of the rows that have an intent of it.
	wrote map[int][]int
	foot  foot
}

// Begin begins a transaction of a level: its number.
func (d *DB) Begin(level int) (int, api.Errno) {
	switch {
	case !d.given():
		return 0, api.ErrArg
	case level < api.LevelCommitted || level > api.LevelSerial:
		return 0, api.ErrLevel
	}
	d.lock.Lock()
	defer d.lock.Unlock()
	return d.begin(&transaction{level: level, begun: d.clock.Frontier()})
}

// BeginAt begins one that reads alone, as of a stamp.
func (d *DB) BeginAt(stamp uint64) (int, api.Errno) {
	if !d.given() {
		return 0, api.ErrArg
	}
	d.lock.Lock()
	defer d.lock.Unlock()
	if err := d.mayRead(stamp); err != api.OK {
		return 0, err
	}
	return d.begin(&transaction{level: api.LevelSnapshot, begun: stamp, alone: true})
}

// mayRead tells why nobody may read at a stamp.
func (d *DB) mayRead(stamp uint64) api.Errno {
	switch {
	case stamp > d.clock.Frontier():
		return api.ErrArg
	case stamp < d.snaps.Floor():
		return api.ErrLow
	}
	return api.OK
}

func (d *DB) begin(x *transaction) (int, api.Errno) {
	number, err := d.states.Begin()
	if err != api.OK {
		return 0, err
	}
	x.number = number
	x.wrote = map[int][]int{}
	if x.level != api.LevelCommitted {
		// Not refused: there are as many readers as transactions may be active, and nobody begins below the floor.
		x.reader, _ = d.snaps.Enter(x.begun)
	}
	d.active[number] = x
	return number, api.OK
}

// end lets a transaction be active no more, of which no row has an intent.
func (d *DB) end(x *transaction) {
	delete(d.active, x.number)
	if x.level != api.LevelCommitted {
		d.snaps.Leave(x.reader)
	}
	if x.level == api.LevelSerial {
		d.log.Trim(d.oldest())
	}
}

// oldest is the least snapshot of the serializable ones that are active; the frontier, if none is.
func (d *DB) oldest() uint64 {
	oldest := d.clock.Frontier()
	for _, x := range d.active {
		if x.level == api.LevelSerial {
			oldest = min(oldest, x.begun)
		}
	}
	return oldest
}

// Active is the numbers of all that are active, rising.
func (d *DB) Active() []int {
	if !d.given() {
		return nil
	}
	d.lock.RLock()
	defer d.lock.RUnlock()
	return d.states.Open()
}

// transaction is one that is active, by its number.
func (d *DB) transaction(number int) (*transaction, api.Errno) {
	x, there := d.active[number]
	if !there {
		return nil, api.ErrTxn
	}
	return x, api.OK
}

// snapshot is the stamp up to which a transaction sees what others committed.
func (d *DB) snapshot(x *transaction) uint64 {
	if x.level == api.LevelCommitted {
		return d.clock.Frontier()
	}
	return x.begun
}

func (d *DB) view(x *transaction) api.View {
	return api.View{Txn: x.number, Stamp: d.snapshot(x)}
}

// read notes what a serializable one reads.
func (x *transaction) read(f api.Foot) api.Errno {
	if x.level != api.LevelSerial {
		return api.OK
	}
	return x.foot.note(f)
}

// written is the tables in which rows have intents of a transaction, in order.
func (d *DB) written(x *transaction) []*table {
	var l []*table
	for _, t := range d.tables {
		if len(x.wrote[t.number]) > 0 {
			l = append(l, t)
		}
	}
	return l
}

// rows is how many have an intent of it.
func (x *transaction) rows() int {
	n := 0
	for _, slots := range x.wrote {
		n += len(slots)
	}
	return n
}

// keep lets those slots alone of a table be written by it in which its intents are still: whether some were lost.
func (x *transaction) keep(t *table) bool {
	had := x.wrote[t.number]
	left := slices.DeleteFunc(slices.Clone(had), func(slot int) bool { return t.store.Intent(slot).Txn != x.number })
	x.wrote[t.number] = left
	return len(left) < len(had)
}
