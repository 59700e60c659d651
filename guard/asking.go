package guard

import (
	"math"

	"vellum/api"
	"vellum/code"
)

// noSlot is that of no row.
const noSlot = -1

// asking is a write of which layer 20 refuses nothing, while it is asked what it would break.
//
// Others may commit, abort and go back meanwhile, but nobody writes. So there is never more in a slot than there was, and what stood in the way of nothing does not do so later; and what decides is one look each time, so it is of one time.
type asking struct {
	guard  *Guard
	table  int
	serial bool
	view   api.View
	// old is the row that is seen under the key, oldKey its key, and slot where it is: nothing, empty and noSlot of an Insert.
	old    []api.Value
	oldKey string
	slot   int
	// row is the one that is written, and newKey its key: nothing, and empty, of a Delete.
	row    []api.Value
	newKey string
}

func (g *Guard) asking(w wish) (*asking, api.Errno) {
	info, err := g.db.Info(w.txn)
	if err != api.OK {
		return nil, err
	}
	a := &asking{guard: g, table: w.table, serial: info.Level == api.LevelSerial, slot: noSlot, row: w.row}
	a.view = api.View{Txn: w.txn, Stamp: info.Snapshot}
	if info.Level == api.LevelCommitted {
		a.view.Stamp = api.MaxStamp // it sees what is newest, whenever it looks
	}
	if len(w.row) > 0 {
		a.newKey, _ = code.Encode(pick(w.row, g.tables[w.table].Key))
	}
	if len(w.key) > 0 {
		return a, a.find(w.key)
	}
	return a, api.OK
}

// find finds the row that is seen under a key. (To be asked for it notes nothing that is not noted already; and its other versions, which may be many, are not asked for.)
func (a *asking) find(key []api.Value) api.Errno {
	row, seen, err := a.guard.db.Get(a.view.Txn, a.table, key)
	if err != api.OK {
		return err
	}
	a.oldKey, _ = code.Encode(key)
	entries, err := a.guard.db.Entries(a.table, tableKey, code.Point(a.oldKey))
	if err != api.OK {
		return err
	}
	if !seen || len(entries) == 0 {
		return api.ErrMissing // somebody let it be gone meanwhile who is not guarded
	}
	a.old, a.slot = row, entries[0].Slot
	return api.OK
}

// goes tells whether no row is left under the key.
func (a *asking) goes() bool {
	return len(a.old) > 0 && a.newKey != a.oldKey
}

// breaks is what the write would break, or why that can't be asked.
func (a *asking) breaks() (api.Broken, api.Errno) {
	if len(a.row) > 0 {
		if b, err := a.breaksUnique(); err != api.OK {
			return b, err
		}
		if b, err := a.breaksOut(); err != api.OK {
			return b, err
		}
	}
	if a.goes() {
		return a.breaksIn()
	}
	return api.Broken{}, api.OK
}

func (a *asking) breaksUnique() (api.Broken, api.Errno) {
	for n, x := range a.guard.tables[a.table].Indexes {
		if !x.Unique {
			continue
		}
		if err := a.unique(n, x.Columns); err != api.OK {
			return told(api.Broken{Table: a.table, Kind: api.BrokenUnique, N: n}, err)
		}
	}
	return api.Broken{}, api.OK
}

func (a *asking) breaksOut() (api.Broken, api.Errno) {
	for _, l := range a.guard.links {
		if l.from != a.table {
			continue
		}
		if err := a.out(l); err != api.OK {
			return told(api.Broken{Table: a.table, Kind: api.BrokenOut, N: l.n}, err)
		}
	}
	return api.Broken{}, api.OK
}

func (a *asking) breaksIn() (api.Broken, api.Errno) {
	for _, l := range a.guard.links {
		if l.to != a.table {
			continue
		}
		if err := a.in(l); err != api.OK {
			return told(api.Broken{Table: l.from, Kind: api.BrokenIn, N: l.n}, err)
		}
	}
	return api.Broken{}, api.OK
}

// told is what is refused: with what is broken, but where the transaction can't note what it reads, or is not there any more.
func told(b api.Broken, err api.Errno) (api.Broken, api.Errno) {
	switch err {
	case api.ErrUnique, api.ErrForeign, api.ErrBusy, api.ErrNewer:
		return b, err
	}
	return api.Broken{}, err
}

// unique is why the new row may not be beside the others in a unique index.
func (a *asking) unique(n int, columns []int) api.Errno {
	l := pick(a.row, columns)
	if hasNull(l) || has(a.old, columns, l) {
		return api.OK
	}
	same, _ := code.Begins(l) // not too long: the row's key there begins with it
	if err := a.reads(a.table, n, same); err != api.OK {
		return err
	}
	held, err := a.look(a.table, n, same)
	if err != api.OK {
		return err
	}
	return a.meets(a.table, held, api.ErrUnique, func(row []api.Value) bool { return has(row, columns, l) })
}

// out is why the new row may not refer to what it refers to by a reference.
func (a *asking) out(l link) api.Errno {
	to := pick(a.row, l.columns)
	if hasNull(to) || !a.goes() && has(a.old, l.columns, to) {
		return api.OK
	}
	key, err := code.Encode(to)
	if err != api.OK {
		return api.ErrForeign // it is longer than any row's
	}
	if err := a.readsKey(l.to, to); err != api.OK {
		return err
	}
	switch {
	case l.to == a.table && key == a.newKey:
		return api.OK
	case l.to == a.table && key == a.oldKey:
		return api.ErrForeign
	}
	held, err := a.look(l.to, tableKey, code.Point(key))
	if err != api.OK {
		return err
	}
	return a.stands(held)
}

// stands is why nobody may refer to a row that may be among these, of one key.
func (a *asking) stands(held []api.Held) api.Errno {
	for _, h := range held {
		_, seen := a.sees(h)
		switch {
		case !seen:
			return api.ErrForeign
		case a.isOthers(h):
			return api.ErrBusy
		case !a.isOwn(h) && h.Versions[0].Stamp > a.view.Stamp:
			return api.ErrNewer
		}
		return api.OK
	}
	return api.ErrForeign
}

// in is why the row may not go that has the key, for those that refer to it by a reference.
func (a *asking) in(l link) api.Errno {
	if err := a.reads(l.from, tableKey, api.Range{Open: true}); err != api.OK {
		return err
	}
	key := pick(a.old, a.guard.tables[a.table].Key)
	refer, _ := code.Begins(pick(key, l.order)) // not too long: the key is a row's
	held, err := a.look(l.from, l.index, refer)
	if err != api.OK {
		return err
	}
	return a.meets(l.from, held, api.ErrForeign, func(row []api.Value) bool { return has(row, l.columns, key) })
}

// reads notes a range of keys, if the transaction is serializable. What it is told is of no use here: it may be of another time than the look.
func (a *asking) reads(table, index int, r api.Range) api.Errno {
	if !a.serial {
		return api.OK
	}
	_, err := a.guard.db.Scan(a.view.Txn, table, api.Scan{Index: index, Range: r, Most: math.MaxInt})
	return err
}

// readsKey notes a key likewise.
func (a *asking) readsKey(table int, key []api.Value) api.Errno {
	if !a.serial {
		return api.OK
	}
	_, _, err := a.guard.db.Get(a.view.Txn, table, key)
	return err
}
