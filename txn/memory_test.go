package txn_test

import (
	"fmt"
	"runtime"
	"testing"

	"vellum/api"
	"vellum/lit"
	"vellum/txn"
)

// soil writes into all of a list's memory, with the room behind its end.
func soil[T any](l []T, with T) {
	l = l[:cap(l)]
	for i := range l {
		l[i] = with
	}
}

func soilTables(l []api.Table) {
	for _, t := range l {
		for _, x := range t.Indexes {
			soil(x.Columns, 77)
		}
		for _, x := range t.Refs {
			soil(x.Columns, 77)
		}
		soil(t.Columns, api.Column{Name: "soiled"})
		soil(t.Key, 77)
		soil(t.Indexes, api.Index{Name: "soiled"})
		soil(t.Refs, api.Ref{Table: "soiled"})
	}
	soil(l, api.Table{Name: "soiled"})
}

func soilRows(l [][]api.Value) {
	for _, row := range l {
		soil(row, lit.Text("soiled"))
	}
	soil(l, []api.Value{lit.Text("soiled")})
}

func soilFoot(f api.Foot) {
	soil(f.Points, api.Point{Key: "soiled"})
	soil(f.Spans, api.Span{Range: all()})
	soil(f.Writes, api.Point{Key: "soiled"})
}

func soilHeld(l []api.Held) {
	for _, h := range l {
		for _, v := range h.Versions {
			soil(v.Row, lit.Text("soiled"))
		}
		for _, w := range h.Intent.Writes {
			soil(w.Row, lit.Text("soiled"))
		}
		soil(h.Versions, api.Version{Stamp: 99})
		soil(h.Intent.Writes, api.Write{Level: 99})
	}
	soil(l, api.Held{Slot: 99})
}

func soilSeen(l []api.Seen) {
	for _, s := range l {
		soil(s.Row, lit.Text("soiled"))
	}
	soil(l, api.Seen{Slot: 99})
}

// roomy is a list with room behind its end, in which something lies.
func roomy(l ...api.Value) []api.Value { return append(l, lit.Text("behind"), lit.Int(66))[:len(l)] }

func whole(l []api.Value) string { return fmt.Sprint(l[:cap(l)]) }

// R3: what is handed in is neither changed nor kept, nor what lies behind its end.
func TestArgumentsAreNotKept(t *testing.T) {
	tables := []api.Table{pairs("t"), wide("w")}
	tables[0].Columns = append(tables[0].Columns, api.Column{Name: "behind"})[:2]
	tables[1].Indexes[0].Columns = append(tables[1].Indexes[0].Columns, 99)[:2]
	d := madeOf(t, tables...)
	wants(t, "the tables", fmt.Sprint(tables), fmt.Sprint([]api.Table{pairs("t"), wide("w")}))
	wants(t, "the room behind the columns", tables[0].Columns[:3][2].Name, "behind")
	wants(t, "the room behind an index's columns", tables[1].Indexes[0].Columns[:3][2], 99)
	soilTables(tables)
	wants(t, "the tables that it has", fmt.Sprint(d.Tables()), fmt.Sprint([]api.Table{pairs("t"), wide("w")}))
	x := begin(t, d, serial)
	row, k := roomy(lit.Int(1), lit.Int(5)), roomy(lit.Int(1))
	wasRow, wasKey := whole(row), whole(k)
	inserts(t, d, x, row)
	wants(t, "Update", d.Update(x, 0, k, row), api.OK)
	d.Get(x, 0, k)
	d.TryDelete(x, 0, k)
	wants(t, "the row", whole(row), wasRow)
	wants(t, "the key", whole(k), wasKey)
	soil(row, lit.Int(8))
	soil(k, lit.Int(8))
	gets(t, d, x, 1, "1 5")
	gets(t, d, x, 8, "")
	e := where(t, pairs("t"), "b = 5 and a = 1")
	q := api.Scan{Index: 0, Range: all(), Where: e, Most: 9}
	sees(t, d, x, q, "1 5")
	wants(t, "the condition", fmt.Sprint(e), fmt.Sprint(where(t, pairs("t"), "b = 5 and a = 1")))
	commits(t, d, x, 1)
	rowsAt(t, d, 1, "1 5")
	rows := [][][]api.Value{{pair(1, 5), pair(2, 6)}, nil}
	d, err := txn.Load([]api.Table{pairs("t"), wide("w")}, rows, 3)
	wants(t, "Load", err, api.OK)
	soilRows(rows[0])
	rowsAt(t, d, 3, "1 5, 2 6")
	entries(t, d, 0, "5 1: 0, 6 2: 1")
}

// R3: whoever soils what was told changes nothing; no two lists of an answer share memory.
func TestAnswersShareNothing(t *testing.T) {
	d := filled(t, pair(1, 5), pair(2, 6), pair(3, 7))
	x := begin(t, d, serial)
	updates(t, d, x, 1, pair(1, 8))
	saves(t, d, x, 1)
	updates(t, d, x, 1, pair(1, 9))
	gets(t, d, x, 7, "")
	sees(t, d, x, api.Scan{Index: 0, Range: upTo(6, 8), Most: 9}, "2 6, 3 7")
	for range 3 {
		row, _, _ := d.Get(x, 0, key(2))
		soil(row, lit.Text("soiled"))
		row, _, _ = d.Get(x, 0, key(1))
		soil(row, lit.Text("soiled"))
		soilTables(d.Tables())
		soil(d.Active(), 99)
		f, _ := d.Foot(x)
		points := shownPoints(f.Points)
		soil(f.Writes, api.Point{Key: "soiled"})
		wants(t, "the points beside soiled writes", shownPoints(f.Points), points)
		soilFoot(f)
		hits, _ := d.Entries(0, 0, all())
		soil(hits, api.Hit{Slot: 99})
		rows, _ := d.At(0, 1)
		soil(rows[0], lit.Text("soiled"))
		wants(t, "the rows beside a soiled one", shownRows(rows[1:]), "2 6, 3 7")
		soilRows(rows)
		held, _ := d.Latest(0, 0, all())
		soilHeld(held)
		seen, _ := d.Scan(x, 0, api.Scan{Index: 0, Range: upTo(6, 8), Most: 9})
		soil(seen[0].Row, lit.Text("soiled"))
		wants(t, "the rows beside a soiled one", shownSeen(seen[1:]), "3 7")
		soilSeen(seen)
		gets(t, d, x, 1, "1 9")
	}
	footIs(t, d, x, api.Foot{
		Points: []api.Point{at(-1, 1), at(-1, 2), at(-1, 7)},
		Spans:  []api.Span{over(0, upTo(6, 8))},
		Writes: []api.Point{at(-1, 1), at(0, 5, 1), at(0, 8, 1), at(0, 9, 1)},
	})
	wants(t, "the tables", fmt.Sprint(d.Tables()), fmt.Sprint([]api.Table{pairs("t")}))
	entries(t, d, 0, "5 1: 0, 6 2: 1, 7 3: 2, 8 1: 0, 9 1: 0")
	rowsAt(t, d, 1, "1 5, 2 6, 3 7")
	wants(t, "Back", d.Back(x, 1), api.OK)
	gets(t, d, x, 1, "1 8")
	commits(t, d, x, 2)
	rowsAt(t, d, 2, "1 8, 2 6, 3 7")
}

// R3: what was told stays as it was told, whatever comes behind it.
func TestAnswersStay(t *testing.T) {
	d := filled(t, pair(1, 5), pair(2, 6))
	x := begin(t, d, serial)
	updates(t, d, x, 1, pair(1, 8))
	row, _, _ := d.Get(x, 0, key(1))
	seen, _ := d.Scan(x, 0, by(0))
	f, _ := d.Foot(x)
	held, _ := d.Latest(0, 0, all())
	hits, _ := d.Entries(0, 0, all())
	rows, _ := d.At(0, 1)
	active := d.Active()
	text := func() string {
		return told(shownRow(row), shownSeen(seen), shownFoot(f), shownHeld(held), shownHits(hits), shownRows(rows), active)
	}
	was := text()
	updates(t, d, x, 1, pair(1, 9))
	deletes(t, d, x, 2)
	gets(t, d, x, 0, "")
	d.Foot(x)
	commits(t, d, x, 2)
	d.Prune(2)
	wants(t, "what was told", text(), was)
}

// inUse is how many bytes are held.
func inUse() int64 {
	runtime.GC()
	var m runtime.MemStats
	runtime.ReadMemStats(&m)
	return int64(m.HeapAlloc)
}

// A database keeps nothing of transactions that have ended, but what they left; and of commits what they wrote only as long as a serializable one may ask for it.
func TestNothingIsKeptOfEndedOnes(t *testing.T) {
	d := two(t)
	before := inUse()
	for i := range int64(20000) {
		x, y := begin(t, d, serial), begin(t, d, serial)
		updates(t, d, x, 1, pair(1, i))
		inserts(t, d, x, pair(3, i))
		deletes(t, d, x, 3)
		gets(t, d, y, 2, "2 0")
		inserts(t, d, y, pair(4, i))
		_, err := d.Commit(x)
		wants(t, "Commit", err, api.OK)
		aborts(t, d, y)
		d.Prune(d.Frontier())
	}
	if grown := inUse() - before; grown > 1<<20 {
		t.Fatalf("it keeps %d bytes of what has gone", grown)
	}
	runtime.KeepAlive(d)
}
