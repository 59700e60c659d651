package index_test

import (
	"math"
	"testing"

	"vellum/api"
	"vellum/index"
	"vellum/lit"
)

// In3: an entry stays as long as some version has its key, the oldest one too, and goes behind it.
func TestSweepByVersions(t *testing.T) {
	s := filled(t, pair(1, 5), pair(2, 9))
	x := built(t, table(), 0, s)
	for stamp, b := range []int64{6, 5, 7} {
		written(t, s, 0, 1, api.Write{Row: pair(1, b)}, uint64(stamp+1))
		put(t, x, pair(1, b), 0)
		settled(t, s, 1, uint64(stamp+2))
	}
	wants(t, "Sweep of what all have", x.Sweep(s), 0)
	s.Prune(2)
	wants(t, "Sweep, 5 is there again", x.Sweep(s), 0)
	s.Prune(3)
	wants(t, "Sweep of 6", x.Sweep(s), 1)
	s.Prune(4)
	wants(t, "Sweep of 5", x.Sweep(s), 1)
	wants(t, "Sweep again", x.Sweep(s), 0)
	finds(t, x, all(), false, many, 0, 1)
	sees(t, x, s, api.View{Stamp: 4}, "0: 1 7, 1: 2 9")
}

// In3: the key that a version had that is gone is not the gone one's; a row's last entry goes with the row.
func TestSweepOfGoneRows(t *testing.T) {
	s := filled(t, pair(1, 5), pair(2, 9))
	x := built(t, table(), -1, s)
	written(t, s, 0, 1, api.Write{Gone: true}, 1)
	settled(t, s, 1, 2)
	wants(t, "Sweep", x.Sweep(s), 0)
	written(t, s, 0, 1, api.Write{Row: pair(3, 5)}, 2)
	put(t, x, pair(3, 5), 0)
	settled(t, s, 1, 3)
	s.Prune(2)
	wants(t, "Sweep of what is gone", x.Sweep(s), 1)
	written(t, s, 0, 1, api.Write{Gone: true}, 3)
	settled(t, s, 1, 4)
	s.Prune(4)
	wants(t, "Sweep of a row that is there no more", x.Sweep(s), 1)
	finds(t, x, all(), false, many, 1)
}

// In3: while a row has an intent its entries stay, also those that nothing of it has; behind Back they go.
func TestSweepBesideAnIntent(t *testing.T) {
	s := filled(t, pair(1, 5), pair(2, 9))
	x := built(t, table(), 0, s)
	put(t, x, pair(8, 8), 0)
	put(t, x, pair(9, 8), 1)
	written(t, s, 0, 2, api.Write{Row: pair(1, 6)}, 1)
	put(t, x, pair(1, 6), 0)
	written(t, s, 0, 2, api.Write{Level: 1, Row: pair(1, 7)}, 1)
	put(t, x, pair(1, 7), 0)
	s.Back(2, 1)
	wants(t, "Sweep of the other row's", x.Sweep(s), 1)
	finds(t, x, all(), false, many, 0, 0, 0, 0, 1)
	written(t, s, 0, 2, api.Write{Gone: true}, 1)
	wants(t, "Sweep beside a write that is gone", x.Sweep(s), 0)
	s.Back(2, 0)
	wants(t, "Sweep behind Back", x.Sweep(s), 3)
	finds(t, x, all(), false, many, 0, 1)
	slot := added(t, s, 3, pair(4, 4))
	put(t, x, pair(4, 4), slot)
	wants(t, "Sweep of a new row", x.Sweep(s), 0)
	s.Back(3, 0)
	wants(t, "Sweep of a row that never was", x.Sweep(s), 1)
}

// In3: slots in which no row is, whatever the store, and rows whose key is another one.
func TestSweepByAnotherStore(t *testing.T) {
	s := filled(t, pair(1, 5), pair(2, 6), pair(3, 7))
	entries := func() *index.Index {
		x := built(t, table(), 0, s)
		put(t, x, pair(7, 7), math.MaxInt)
		return x
	}
	x := entries()
	wants(t, "Sweep with its own", x.Sweep(s), 1)
	finds(t, x, all(), false, many, 0, 1, 2)
	x = entries()
	wants(t, "Sweep with nil", x.Sweep(nil), 4)
	finds(t, x, all(), false, many)
	wants(t, "Sweep with nil again", x.Sweep(nil), 0)
	x = entries()
	wants(t, "Sweep with an empty one", x.Sweep(newStore(t, 9)), 4)
	x = entries()
	wants(t, "Sweep with another one", x.Sweep(filled(t, pair(1, 5), pair(3, 7), pair(3, 7))), 2)
	finds(t, x, all(), false, many, 0, 2)
	x = entries()
	strange := filled(t, pair(1, 5)[:1], []api.Value{lit.Text("x"), lit.Null()}, pair(3, 7))
	wants(t, "Sweep with rows of another table", x.Sweep(strange), 3)
	finds(t, x, all(), false, many, 2)
	put(t, x, pair(2, 6), 5)
	finds(t, x, all(), false, many, 5, 2)
}

// In3: one row with many keys, and many rows.
func TestSweepOfMany(t *testing.T) {
	s := moved(t, 3000)
	x := built(t, table(), 0, s)
	wants(t, "Sweep", x.Sweep(s), 0)
	s.Prune(2001)
	wants(t, "Sweep", x.Sweep(s), 2000)
	s.Prune(3001)
	wants(t, "Sweep", x.Sweep(s), 1000)
	finds(t, x, all(), false, many, 0, 1)
}
