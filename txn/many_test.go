package txn_test

import (
	"testing"

	"vellum/api"
	"vellum/txn"
)

// bare is a table with the int a, the key, and the int b, without indexes.
func bare() api.Table {
	tab := pairs("t")
	tab.Indexes = nil
	return tab
}

// full is a database whose table has MaxRows rows, from 0 on, at the stamp 1.
func full(t *testing.T) *txn.DB {
	t.Helper()
	rows := make([][]api.Value, 1<<16)
	for i := range rows {
		rows[i] = pair(int64(i), 0)
	}
	d, err := txn.Load([]api.Table{bare()}, [][][]api.Value{rows}, 1)
	wants(t, "Load", err, api.OK)
	return d
}

// Tx3, 5.: no new slot where the table has MaxRows rows; a row that is gone has its slot till it is pruned.
func TestRowsFull(t *testing.T) {
	d := full(t)
	x := begin(t, d, snapshot)
	wants(t, "Insert", d.Insert(x, 0, pair(-1, 0)), api.ErrFull)
	wants(t, "TryInsert", d.TryInsert(x, 0, pair(-1, 0)), api.ErrFull)
	wants(t, "Update to another key", d.Update(x, 0, key(5), pair(-1, 0)), api.ErrFull)
	wants(t, "TryUpdate to another key", d.TryUpdate(x, 0, key(5), pair(-1, 0)), api.ErrFull)
	wants(t, "Insert of one that is there", d.Insert(x, 0, pair(5, 0)), api.ErrExists)
	infoIs(t, d, x, api.Info{Level: snapshot, Snapshot: 1})
	footIs(t, d, x, api.Foot{})
	updates(t, d, x, 5, pair(5, 1))
	deletes(t, d, x, 6)
	wants(t, "Insert beside one that it deleted", d.Insert(x, 0, pair(-1, 0)), api.ErrFull)
	inserts(t, d, x, pair(6, 1))
	deletes(t, d, x, 6)
	commits(t, d, x, 2)
	x = begin(t, d, snapshot)
	wants(t, "Insert beside one that is gone", d.Insert(x, 0, pair(-1, 0)), api.ErrFull)
	aborts(t, d, x)
	prunes(t, d, 2, api.Pruned{Versions: 3, Entries: 1, Rows: 1}, 2)
	x = begin(t, d, snapshot)
	saves(t, d, x, 1)
	inserts(t, d, x, pair(-1, 0))
	wants(t, "Insert of one more", d.Insert(x, 0, pair(-2, 0)), api.ErrFull)
	wants(t, "Back", d.Back(x, 1), api.OK)
	inserts(t, d, x, pair(-2, 0))
	deletes(t, d, x, -2)
	wants(t, "Insert beside what it deleted", d.Insert(x, 0, pair(-3, 0)), api.ErrFull)
	commits(t, d, x, 3)
	done(t, d, func(x int) { inserts(t, d, x, pair(-3, 0)) })
	rows, err := d.At(0, 4)
	wants(t, "At", err, api.OK)
	wants(t, "how many rows", len(rows), 1<<16)
	wants(t, "the first one", shownRow(rows[0]), "-3 0")
}

// noting is a serializable one of a database with the row 1, 0, whose foot has so many points: of the keys below 0.
func noting(t *testing.T, n int) (*txn.DB, int) {
	t.Helper()
	d, err := txn.Load([]api.Table{bare()}, [][][]api.Value{{pair(1, 0)}}, 1)
	wants(t, "Load", err, api.OK)
	x := begin(t, d, serial)
	for i := range n {
		gets(t, d, x, -int64(i)-1, "")
	}
	return d, x
}

func sizeIs(t *testing.T, d *txn.DB, x, want int) {
	t.Helper()
	f, err := d.Foot(x)
	wants(t, "Foot", err, api.OK)
	wants(t, "the foot's size", size(f), want)
}

// Tx2, Tx3: a foot that has MaxFoot points takes nothing more, not even what it has already: layer 17's Merge refuses it.
func TestFootFull(t *testing.T) {
	d, x := noting(t, 1<<16)
	was, err := d.Foot(x)
	wants(t, "Foot", err, api.OK)
	_, there, err := d.Get(x, 0, key(1))
	wants(t, "Get of a row", err, api.ErrFull)
	wants(t, "Get of a row", there, false)
	_, _, err = d.Get(x, 0, key(-1))
	wants(t, "Get of what is noted", err, api.ErrFull)
	divides := where(t, bare(), "a / 0 = 1")
	for what, q := range map[string]api.Scan{
		"all":               by(-1),
		"no key":            {Index: -1, Range: api.Range{}, Most: 9},
		"nothing":           {Index: -1, Range: all(), Most: 0},
		"what is no number": {Index: -1, Range: all(), Most: 9, Where: divides},
	} {
		l, err := d.Scan(x, 0, q)
		wants(t, "Scan of "+what, err, api.ErrFull)
		wants(t, "rows of "+what, len(l), 0)
	}
	_, err = d.Scan(x, 0, api.Scan{Index: -1, Range: all(), Most: 9, Where: where(t, bare(), "a")})
	wants(t, "Scan that Open refuses", err, api.ErrType)
	wants(t, "Insert", d.Insert(x, 0, pair(7, 0)), api.ErrFull)
	wants(t, "Insert of one that is there", d.Insert(x, 0, pair(1, 0)), api.ErrFull)
	wants(t, "Insert of no row", d.Insert(x, 0, nil), api.ErrArg)
	wants(t, "Update", d.Update(x, 0, key(1), pair(1, 1)), api.ErrFull)
	wants(t, "Delete", d.Delete(x, 0, key(1)), api.ErrFull)
	wants(t, "TryDelete of none", d.TryDelete(x, 0, key(-5)), api.ErrFull)
	footIs(t, d, x, was)
	infoIs(t, d, x, api.Info{Level: serial, Snapshot: 1})
	saves(t, d, x, 1)
	commits(t, d, x, 1)
}

// Tx2: up to MaxFoot a foot takes what it is told, each point once; a span takes the points in it out.
func TestFootNearlyFull(t *testing.T) {
	d, x := noting(t, 1<<16-1)
	for range 3 {
		gets(t, d, x, -1, "")
		sizeIs(t, d, x, 1<<16-1)
	}
	sees(t, d, x, by(-1), "1 0")
	footIs(t, d, x, api.Foot{Spans: []api.Span{over(-1, all())}})
	for i := range int64(1000) {
		gets(t, d, x, -i, "")
	}
	sizeIs(t, d, x, 1)
	updates(t, d, x, 1, pair(1, 1))
	sizeIs(t, d, x, 2)
	commits(t, d, x, 2)
	d, x = noting(t, 1<<16-1)
	gets(t, d, x, 1, "1 0")
	sizeIs(t, d, x, 1<<16)
}

// Words: what is noted again and again is there once, however often that is.
func TestFootOfOneKey(t *testing.T) {
	d, x := noting(t, 0)
	for range 1<<16 + 9 {
		gets(t, d, x, 1, "1 0")
	}
	for i := range int64(1<<16 + 9) {
		sees(t, d, x, api.Scan{Index: -1, Range: upTo(5, 6+i%3), Most: 9}, "")
	}
	footIs(t, d, x, api.Foot{Points: []api.Point{at(-1, 1)}, Spans: []api.Span{over(-1, upTo(5, 8))}})
	for i := range int64(1 << 15) {
		updates(t, d, x, 1, pair(1, i))
	}
	footIs(t, d, x, api.Foot{Points: []api.Point{at(-1, 1)}, Spans: []api.Span{over(-1, upTo(5, 8))}, Writes: []api.Point{at(-1, 1)}})
	commits(t, d, x, 2)
}

// Tx3, 5.: what it would write can't be noted: nothing is written, but what it read is noted.
func TestFootFullOfWrites(t *testing.T) {
	d, x := noting(t, 1<<16-2)
	inserts(t, d, x, pair(7, 0))
	sizeIs(t, d, x, 1<<16)
	commits(t, d, x, 2)
	d, x = noting(t, 1<<16-1)
	wants(t, "TryInsert", d.TryInsert(x, 0, pair(7, 0)), api.ErrFull)
	sizeIs(t, d, x, 1<<16)
	d, x = noting(t, 1<<16-1)
	wants(t, "Insert", d.Insert(x, 0, pair(7, 0)), api.ErrFull)
	sizeIs(t, d, x, 1<<16)
	f, _ := d.Foot(x)
	wants(t, "the writes", len(f.Writes), 0)
	infoIs(t, d, x, api.Info{Level: serial, Snapshot: 1})
	entries(t, d, -1, "1: 0")
	commits(t, d, x, 1)
}

// Tx3, 5.: of the other levels writes alone are noted; MaxFoot of them may be.
func TestFootFullOfWritesAlone(t *testing.T) {
	d := madeOf(t, bare(), pairs("u"))
	x := begin(t, d, snapshot)
	for i := range int64(1<<16 - 1) {
		inserts(t, d, x, pair(i, 0))
	}
	wants(t, "Insert of two points", d.Insert(x, 1, pair(1, 1)), api.ErrFull)
	wants(t, "TryInsert of two points", d.TryInsert(x, 1, pair(1, 1)), api.ErrFull)
	inserts(t, d, x, pair(-1, 0))
	sizeIs(t, d, x, 1<<16)
	wants(t, "Delete", d.Delete(x, 0, key(1)), api.ErrFull)
	gets(t, d, x, 1, "1 0")
	infoIs(t, d, x, api.Info{Level: snapshot, Writes: 1 << 16})
	commits(t, d, x, 1)
	rows, err := d.At(0, 1)
	wants(t, "At", err, api.OK)
	wants(t, "how many rows", len(rows), 1<<16)
}

// Tx3, Tx5: a row that is written again and again, each time in a transaction of its own, costs no more for its many versions.
func TestManyVersions(t *testing.T) {
	d := two(t)
	const n = 20000
	for i := range uint64(n) {
		x := begin(t, d, serial)
		gets(t, d, x, 2, "2 0")
		updates(t, d, x, 1, pair(1, int64(i)))
		commits(t, d, x, i+2)
	}
	rowsAt(t, d, n/2, shownRows([][]api.Value{pair(1, n/2-2), pair(2, 0)}))
	prunes(t, d, n+1, api.Pruned{Versions: n, Entries: n - 1}, n+1)
	entries(t, d, 0, "0 2: 1, 19999 1: 0")
}

// Tx4, Tx5: many transactions, each of which writes and goes back, beside a table of many rows.
func TestManyBacks(t *testing.T) {
	d := made(t)
	done(t, d, func(x int) {
		for i := range int64(2000) {
			inserts(t, d, x, pair(i, i))
		}
	})
	for i := range int64(200) {
		x := begin(t, d, snapshot)
		updates(t, d, x, i, pair(i, -i))
		for n := range 10 {
			saves(t, d, x, n+1)
			updates(t, d, x, i, pair(i, -i-int64(n)))
		}
		wants(t, "Back", d.Back(x, 5), api.OK)
		commits(t, d, x, uint64(i)+2)
	}
	l, err := d.Entries(0, -1, all())
	wants(t, "Entries", err, api.OK)
	wants(t, "how many entries", len(l), 2000)
}
