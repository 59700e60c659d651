package vacuum_test

import (
	"math"
	"testing"

	"vellum/api"
)

// Vc3: those that are active at the horizon, rising, whatever their level is, but LevelCommitted.
func TestHolders(t *testing.T) {
	d := made(t, textT)
	holders(t, d)
	a, b, c := begin(t, d, serial), begin(t, d, committed), begin(t, d, snapshot)
	holders(t, d)
	inserts(t, d, b, 1, 1)
	holders(t, d)
	commits(t, d, b)
	holders(t, d, a, c)
	e := beginAt(t, d, 0)
	f := beginAt(t, d, 1)
	holders(t, d, a, c, e)
	aborts(t, d, a)
	commits(t, d, e)
	holders(t, d, c)
	commits(t, d, c)
	// The horizon is the frontier: nobody holds it.
	holders(t, d)
	done(t, d, func(x int) { updates(t, d, x, 1, 1, 2) })
	holders(t, d, f)
}

// Vc3: who wrote holds it as well as who did not.
func TestHoldersThatWrite(t *testing.T) {
	d := made(t, textT)
	x := begin(t, d, serial)
	inserts(t, d, x, 1, 1)
	holders(t, d)
	done(t, d, func(x int) { inserts(t, d, x, 2, 1) })
	holders(t, d, x)
	commits(t, d, x)
	holders(t, d)
}

// Vc3: ages are counted in commits; of LevelCommitted each one's is 0.
func TestOld(t *testing.T) {
	d := made(t, textT)
	for _, age := range []uint64{0, 1, math.MaxUint64} {
		old(t, d, age)
	}
	a, b := begin(t, d, serial), begin(t, d, committed)
	old(t, d, 0, a, b)
	old(t, d, 1)
	done(t, d, func(x int) { inserts(t, d, x, 1, 1) })
	c := begin(t, d, snapshot)
	done(t, d, func(x int) { updates(t, d, x, 1, 1, 2) })
	e, f := begin(t, d, snapshot), beginAt(t, d, 1)
	g := beginAt(t, d, 0)
	old(t, d, 0, a, b, c, e, f, g)
	old(t, d, 1, a, c, f, g)
	old(t, d, 2, a, g)
	old(t, d, 3)
	old(t, d, 1<<63)
	old(t, d, math.MaxUint64)
	// Who commits nothing makes nobody older.
	commits(t, d, e)
	aborts(t, d, c)
	old(t, d, 0, a, b, f, g)
	old(t, d, 1, a, f, g)
	old(t, d, 3)
	updates(t, d, b, 1, 1, 3)
	commits(t, d, b)
	old(t, d, 3, a, g)
	old(t, d, 2, a, f, g)
}

// Vc3: the oldest one that may be.
func TestOldest(t *testing.T) {
	d := loaded(t, api.MaxStamp, row(1, 1))
	a, b := begin(t, d, snapshot), beginAt(t, d, api.MaxStamp)
	old(t, d, 0, a, b)
	old(t, d, 1)
	holders(t, d)
	clears(t, d, 1, api.Pruned{})
	d = loaded(t, api.MaxStamp-1, row(1, 1))
	a = begin(t, d, snapshot)
	done(t, d, func(x int) { deletes(t, d, x, 1) })
	old(t, d, 1, a)
	holders(t, d, a)
	clears(t, d, 1, api.Pruned{Versions: 2, Rows: 1, Entries: 2}, a)
	wants(t, "the floor", d.Floor(), api.MaxStamp)
}
