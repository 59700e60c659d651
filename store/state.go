package store

import (
	"vellum/api"
	"vellum/chain"
)

// state is a row as it is at one time; the zero one: no row is there. It never changes once it lies in a place, nor does anything that it leads to: so others may go through it, and later states share it.
type state struct {
	newest *past
	intent api.Intent
}

// past is a version, and all those below it: with it a version on the top costs the same, however many there are.
type past struct {
	version api.Version
	older   *past
}

func (x state) there() bool { return x.newest != nil || x.intent.Txn != 0 }

// newer tells whether a version came behind a stamp.
func (x state) newer(stamp uint64) bool {
	return x.newest != nil && x.newest.version.Stamp > stamp
}

// write is the row with one more write of a transaction.
func (x state) write(txn int, w api.Write, snapshot uint64) (state, api.Errno) {
	if !x.there() {
		return x, api.ErrRowless
	}
	in := api.Intent{Txn: txn}
	if x.intent.Txn == txn {
		in = x.intent
	}
	in, err := chain.Put(in, w)
	switch {
	case err != api.OK:
		return x, err
	case x.intent.Txn != 0 && x.intent.Txn != txn:
		return x, api.ErrBusy
	case x.intent.Txn == 0 && x.newer(snapshot):
		return x, api.ErrNewer
	}
	x.intent = in
	return x, api.OK
}

// see hands layer 8 that version alone to which it would come: the others change nothing of what it tells.
func (x state) see(txn int, stamp uint64) ([]api.Value, bool) {
	p := x.newest
	for p != nil && p.version.Stamp > stamp {
		p = p.older
	}
	if p == nil {
		return chain.See(nil, x.intent, txn, stamp)
	}
	return chain.See([]api.Version{p.version}, x.intent, txn, stamp)
}

// back is the row without the writes of a level and above it; false: it has none there.
func (x state) back(level int) (state, bool) {
	if x.last().Level < level {
		return x, false
	}
	x.intent = chain.Back(x.intent, level)
	return x, true
}

// fold is the row whose writes of a level and above it count for the one below; false: it has none there.
func (x state) fold(level int) (state, bool) {
	if x.last().Level < level {
		return x, false
	}
	x.intent, _ = chain.Fold(x.intent, level)
	return x, true
}

// last is the last write, whose level is the greatest, of a row that has an intent.
func (x state) last() api.Write {
	return x.intent.Writes[len(x.intent.Writes)-1]
}

// settle is the row whose last write is a version from a stamp on.
func (x state) settle(stamp uint64) state {
	last := x.last()
	x.intent = api.Intent{}
	if last.Gone && (x.newest == nil || x.newest.version.Gone) {
		return x // it is gone as it is
	}
	x.newest = &past{api.Version{Stamp: stamp, Gone: last.Gone, Row: last.Row}, x.newest}
	return x
}

// prune is the row without the versions that nobody from a floor on can see, and how many these were.
func (x state) prune(floor uint64) (state, int) {
	left, went := chain.Prune(x.versions(), floor)
	x.newest = nil
	for i := len(left) - 1; i >= 0; i-- {
		x.newest = &past{left[i], x.newest}
	}
	return x, went
}

// versions is the row's versions, newest first. Their rows are the state's own, not to be handed out.
func (x state) versions() []api.Version {
	var all []api.Version
	for p := x.newest; p != nil; p = p.older {
		all = append(all, p.version)
	}
	return all
}
