package vacuum_test

import (
	"testing"

	"vellum/api"
	"vellum/lit"
)

// Vc1: a database without rows has nothing, table by table.
func TestLookAtNothing(t *testing.T) {
	looks(t, made(t, textT), api.Waste{})
	looks(t, made(t, textT, "create table u (a int not null, primary key (a))"), api.Waste{}, api.Waste{})
}

// Vc1: rows that are there once have nothing to be taken.
func TestLookAtRowsThatAreNew(t *testing.T) {
	d := made(t, textT)
	x := begin(t, d, serial)
	for n := range 5 {
		inserts(t, d, x, n, n)
	}
	looks(t, d, api.Waste{})
	commits(t, d, x)
	looks(t, d, api.Waste{Live: 5, Versions: 5})
	runs(t, d, api.Pruned{})
	looks(t, d, api.Waste{Live: 5, Versions: 5})
}

// Vc1: a row that is gone has a version that tells that, and goes whole.
func TestLookAtRowsThatAreGone(t *testing.T) {
	d := thrice(t)
	reader := begin(t, d, snapshot)
	done(t, d, func(x int) { deletes(t, d, x, 1) })
	looks(t, d, api.Waste{Versions: 4, Dead: 2, Entries: 2})
	// A version that comes has the key of one that goes.
	done(t, d, func(x int) { inserts(t, d, x, 1, 2) })
	looks(t, d, api.Waste{Live: 1, Versions: 5, Dead: 2, Entries: 1})
	done(t, d, func(x int) { deletes(t, d, x, 1) })
	looks(t, d, api.Waste{Versions: 6, Dead: 2, Entries: 1})
	commits(t, d, reader)
	looks(t, d, api.Waste{Versions: 6, Dead: 6, Rows: 1, Entries: 1 + 3})
	runs(t, d, api.Pruned{Versions: 6, Rows: 1, Entries: 1 + 3})
	looks(t, d, api.Waste{})
}

// Vc1: an entry goes when the last version goes that has its key; the table's own one with the row.
func TestLookAtEntries(t *testing.T) {
	d := made(t, "create table t (a int not null, b int, c float, primary key (a), index i (b), index j (c, b), unique index k (a))")
	done(t, d, func(x int) { inserts(t, d, x, 1, 5, 0.0) })
	done(t, d, func(x int) { updates(t, d, x, 1, 1, 6, nil) })
	done(t, d, func(x int) { updates(t, d, x, 1, 1, 5, 0.0) })
	first := begin(t, d, snapshot)
	done(t, d, func(x int) { updates(t, d, x, 1, 1, 5, 7.0) })
	// The versions at 1 and 2 go: the key 5 stays in i, and 0, 5 in j.
	looks(t, d, api.Waste{Live: 1, Versions: 4, Dead: 2, Entries: 1 + 1})
	commits(t, d, first)
	looks(t, d, api.Waste{Live: 1, Versions: 4, Dead: 3, Entries: 1 + 2})
	done(t, d, func(x int) { updates(t, d, x, 1, 2, 5, 7.0) })
	// The row 1 goes whole: an entry of its key and of k, two of i, and three of j.
	looks(t, d, api.Waste{Live: 1, Versions: 6, Dead: 5, Rows: 1, Entries: 1 + 2 + 3 + 1})
	runs(t, d, api.Pruned{Versions: 5, Rows: 1, Entries: 1 + 2 + 3 + 1})
}

// Vc1: floats whose bits alone are unlike have one key.
func TestLookAtKeysOfUnlikeBits(t *testing.T) {
	d := made(t, "create table t (a int not null, f float, primary key (a), index i (f))")
	bits := func(b uint64) []any { return []any{1, lit.Bits(b)} }
	done(t, d, func(x int) { inserts(t, d, x, bits(0)...) })
	done(t, d, func(x int) { updates(t, d, x, 1, bits(1<<63)...) })
	done(t, d, func(x int) { updates(t, d, x, 1, bits(0)...) })
	looks(t, d, api.Waste{Live: 1, Versions: 3, Dead: 2})
	runs(t, d, api.Pruned{Versions: 2})
	done(t, d, func(x int) { updates(t, d, x, 1, bits(0x7FF8000000000007)...) })
	done(t, d, func(x int) { updates(t, d, x, 1, bits(0x7FF8000000000000)...) })
	looks(t, d, api.Waste{Live: 1, Versions: 3, Dead: 2, Entries: 1})
	runs(t, d, api.Pruned{Versions: 2, Entries: 1})
}

// Vc1: a row that somebody is writing loses versions, but neither is it there no more, nor do its entries go: till he ends.
func TestLookBesideIntents(t *testing.T) {
	d := made(t, textT)
	done(t, d, func(x int) { inserts(t, d, x, 1, 1); inserts(t, d, x, 2, 1) })
	done(t, d, func(x int) { updates(t, d, x, 1, 1, 2); deletes(t, d, x, 2) })
	x := begin(t, d, snapshot)
	updates(t, d, x, 1, 1, 3)
	inserts(t, d, x, 2, 3)
	inserts(t, d, x, 3, 3)
	looks(t, d, api.Waste{Live: 1, Versions: 4, Dead: 3})
	runs(t, d, api.Pruned{Versions: 3})
	looks(t, d, api.Waste{Live: 1, Versions: 1})
	aborts(t, d, x)
	looks(t, d, api.Waste{Live: 1, Versions: 1})
	runs(t, d, api.Pruned{})
}

// Vc1: ahead of the end of who is writing it a row keeps what behind it would go.
func TestLookBehindIntents(t *testing.T) {
	for _, commit := range []bool{false, true} {
		d := made(t, textT)
		done(t, d, func(x int) { inserts(t, d, x, 2, 1) })
		done(t, d, func(x int) { deletes(t, d, x, 2) })
		x := begin(t, d, snapshot)
		inserts(t, d, x, 2, 3)
		looks(t, d, api.Waste{Versions: 2, Dead: 2})
		if commit {
			commits(t, d, x)
			looks(t, d, api.Waste{Live: 1, Versions: 3, Dead: 2, Entries: 1})
			runs(t, d, api.Pruned{Versions: 2, Entries: 1})
		} else {
			aborts(t, d, x)
			looks(t, d, api.Waste{Versions: 2, Dead: 2, Rows: 1, Entries: 2})
			runs(t, d, api.Pruned{Versions: 2, Rows: 1, Entries: 2})
		}
	}
}

// Vc1: what one has written and taken out again is no waste of him who goes back, commits or aborts.
func TestLookBehindBack(t *testing.T) {
	d := thrice(t)
	runs(t, d, api.Pruned{Versions: 2, Entries: 2})
	x := begin(t, d, committed)
	n, err := d.Save(x)
	wants(t, "Save", err, api.OK)
	updates(t, d, x, 1, 1, 8)
	inserts(t, d, x, 2, 8)
	looks(t, d, api.Waste{Live: 1, Versions: 1})
	wants(t, "Back", d.Back(x, n), api.OK)
	looks(t, d, api.Waste{Live: 1, Versions: 1})
	updates(t, d, x, 1, 1, 9)
	updates(t, d, x, 1, 1, 7)
	commits(t, d, x)
	looks(t, d, api.Waste{Live: 1, Versions: 2, Dead: 1, Entries: 1})
}

// Vc1: each table for itself, in order.
func TestLookTableByTable(t *testing.T) {
	d := made(t, textT, "create table u (x text not null, y text not null, primary key (y, x))", textT[:13]+"w"+textT[14:])
	done(t, d, func(x int) {
		inserts(t, d, x, 1, 1)
		wants(t, "Insert", d.Insert(x, 1, row("a", "b")), api.OK)
		wants(t, "Insert", d.Insert(x, 1, row("b", "a")), api.OK)
		wants(t, "Insert", d.Insert(x, 2, row(1, 1)), api.OK)
		wants(t, "Insert", d.Insert(x, 2, row(2, 2)), api.OK)
	})
	done(t, d, func(x int) {
		updates(t, d, x, 1, 1, 2)
		wants(t, "Delete", d.Delete(x, 1, row("b", "a")), api.OK)
	})
	done(t, d, func(x int) { updates(t, d, x, 1, 1, 2) })
	looks(t, d,
		api.Waste{Live: 1, Versions: 3, Dead: 2, Entries: 1},
		api.Waste{Live: 1, Versions: 3, Dead: 2, Rows: 1, Entries: 1},
		api.Waste{Live: 2, Versions: 2})
	runs(t, d, api.Pruned{Versions: 4, Rows: 1, Entries: 2})
}

// Vc1: of a database that was loaded there is nothing to be taken.
func TestLookAtWhatWasLoaded(t *testing.T) {
	d := loaded(t, 7, row(1, 1), row(2, 2))
	looks(t, d, api.Waste{Live: 2, Versions: 2})
	wants(t, "the stamp", done(t, d, func(x int) { updates(t, d, x, 1, 1, 2) }), 8)
	looks(t, d, api.Waste{Live: 2, Versions: 3, Dead: 1, Entries: 1})
	reader := beginAt(t, d, 7)
	looks(t, d, api.Waste{Live: 2, Versions: 3})
	holders(t, d, reader)
	old(t, d, 1, reader)
	looks(t, loaded(t, api.MaxStamp, row(1, 1)), api.Waste{Live: 1, Versions: 1})
}
