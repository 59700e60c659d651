package txn_test

import (
	"testing"

	"vellum/api"
	"vellum/txn"
)

func prunes(t *testing.T, d *txn.DB, to uint64, want api.Pruned, floor uint64) {
	t.Helper()
	p, err := d.Prune(to)
	if p != want || err != api.OK {
		t.Fatalf("Prune to %d: %+v, error %d, want %+v", to, p, err, want)
	}
	wants(t, "the floor", d.Floor(), floor)
}

// Tx7: the horizon is the least snapshot of those that have one, or the frontier.
func TestHorizon(t *testing.T) {
	d := two(t)
	wants(t, "of nobody", d.Horizon(), 1)
	begin(t, d, committed)
	x := begin(t, d, serial)
	done(t, d, func(y int) { inserts(t, d, y, pair(3, 3)) })
	wants(t, "beside one at 1", d.Horizon(), 1)
	y := begin(t, d, snapshot)
	done(t, d, func(y int) { inserts(t, d, y, pair(4, 4)) })
	commits(t, d, x, 1)
	wants(t, "beside one at 2", d.Horizon(), 2)
	z := beginAt(t, d, 0)
	wants(t, "beside one at 0", d.Horizon(), 0)
	aborts(t, d, z)
	wants(t, "beside one at 2", d.Horizon(), 2)
	aborts(t, d, y)
	wants(t, "beside one of LevelCommitted", d.Horizon(), 3)
	wants(t, "the floor", d.Floor(), 0)
}

// Tx7: the floor goes up to what is asked for, as far as the horizon lets it, and never falls.
func TestFloor(t *testing.T) {
	d := two(t)
	for range 4 {
		done(t, d, func(x int) { updates(t, d, x, 1, pair(1, 0)) })
	}
	x := beginAt(t, d, 3)
	none := api.Pruned{}
	prunes(t, d, 0, none, 0)
	prunes(t, d, 1, none, 1)
	prunes(t, d, 0, none, 1)
	prunes(t, d, 9, api.Pruned{Versions: 2}, 3)
	prunes(t, d, 2, none, 3)
	begin(t, d, committed)
	aborts(t, d, x)
	prunes(t, d, 4, api.Pruned{Versions: 1}, 4)
	prunes(t, d, 1<<64-1, api.Pruned{Versions: 1}, 5)
	prunes(t, d, 1<<64-1, none, 5)
	rowsAt(t, d, 5, "1 0, 2 0")
	_, err := d.At(0, 4)
	wants(t, "At below the floor", err, api.ErrLow)
}

// Tx7: how many versions, entries and rows go, of all tables.
func TestPrune(t *testing.T) {
	d := madeOf(t, pairs("t"), wide("w"), pairs("u"))
	done(t, d, func(x int) {
		inserts(t, d, x, pair(1, 1))
		inserts(t, d, x, pair(2, 2))
		wants(t, "Insert", d.Insert(x, 2, pair(1, 1)), api.OK)
	})
	done(t, d, func(x int) {
		updates(t, d, x, 1, pair(1, 3))
		wants(t, "Update", d.Update(x, 2, key(1), pair(4, 1)), api.OK)
	})
	done(t, d, func(x int) {
		deletes(t, d, x, 2)
		updates(t, d, x, 1, pair(1, 3))
	})
	// Of t: 1 1@1 and 1 3@2, 2 2@1 and that it is gone; of u: 1 1@1 and that it is gone.
	prunes(t, d, 2, api.Pruned{Versions: 1 + 2, Entries: 1 + 2, Rows: 1}, 2)
	prunes(t, d, 3, api.Pruned{Versions: 1 + 2, Entries: 2, Rows: 1}, 3)
	prunes(t, d, 3, api.Pruned{}, 3)
	entries(t, d, -1, "1: 0")
	entries(t, d, 0, "3 1: 0")
	rowsAt(t, d, 3, "1 3")
	rows, err := d.At(2, 3)
	if shownRows(rows) != "4 1" || err != api.OK {
		t.Fatalf("At: %v, error %d", rows, err)
	}
}

// Tx7, Tx12: what an active one wrote does not go, nor its row, though all its versions do.
func TestPruneBesideIntents(t *testing.T) {
	d := two(t)
	reader := begin(t, d, snapshot)
	done(t, d, func(x int) { deletes(t, d, x, 1) })
	x := begin(t, d, snapshot)
	inserts(t, d, x, pair(1, 7))
	inserts(t, d, x, pair(3, 7))
	prunes(t, d, 2, api.Pruned{}, 1)
	gets(t, d, reader, 1, "1 0")
	commits(t, d, reader, 1)
	prunes(t, d, 2, api.Pruned{Versions: 2}, 2)
	sees(t, d, x, by(0), "2 0, 1 7, 3 7")
	l, err := d.Latest(0, -1, all())
	wants(t, "Latest", err, api.OK)
	wants(t, "what is there", shownHeld(l), "slot 0: by 4: 1 7 on 0; slot 1: 2 0@1; slot 2: by 4: 3 7 on 0")
	aborts(t, d, x)
	entries(t, d, -1, "2: 1")
	rowsAt(t, d, 2, "2 0")
}
