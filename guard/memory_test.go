package guard_test

import (
	"fmt"
	"runtime"
	"testing"

	"vellum/api"
	"vellum/guard"
	"vellum/lit"
)

// soil writes into all of a list's memory, with the room behind its end.
func soil[T any](l []T, with T) {
	l = l[:cap(l)]
	for i := range l {
		l[i] = with
	}
}

func soilTables(l []api.Table) {
	for _, t := range l {
		for _, x := range t.Indexes {
			soil(x.Columns, 77)
		}
		for _, x := range t.Refs {
			soil(x.Columns, 77)
		}
		soil(t.Columns, api.Column{Name: "soiled"})
		soil(t.Key, 77)
		soil(t.Indexes, api.Index{Name: "soiled"})
		soil(t.Refs, api.Ref{Table: "soiled"})
	}
	soil(l, api.Table{Name: "soiled"})
}

// roomy is a list with room behind its end, in which something lies.
func roomy(l ...any) []api.Value {
	return append(row(l...), lit.Text("behind"), lit.Int(66))[:len(l)]
}

func whole(l []api.Value) string { return fmt.Sprint(l[:cap(l)]) }

// R3: what is handed in is neither changed nor kept, nor what lies behind its end.
func TestArgumentsAreNotKept(t *testing.T) {
	l := tables(t, textT, textU)
	g, err := guard.New(l)
	wants(t, "New", err, api.OK)
	wants(t, "the tables", fmt.Sprint(l), fmt.Sprint(tables(t, textT, textU)))
	soilTables(l)
	soilTables(g.DB().Tables())
	wants(t, "the tables that it has", fmt.Sprint(g.DB().Tables()), fmt.Sprint(tables(t, textT, textU)))
	filled(t, g, 0, row(1, 1))
	for _, level := range levels() {
		x := begin(t, g, level)
		a, b, k := roomy(5, 6), roomy(5, 1), roomy(5)
		was := whole(a) + whole(b) + whole(k)
		insert(t, g, x, 0, a, ok)
		insert(t, g, x, 0, b, only(api.ErrExists))
		insert(t, g, x, 1, b, ok)
		update(t, g, x, 1, k, b, ok)
		update(t, g, x, 0, k, b, unique(api.ErrUnique, 0, 0))
		remove(t, g, x, 0, k, ok)
		remove(t, g, x, 1, k, ok)
		insert(t, g, x, 0, a, ok)
		wants(t, "what was handed in", whole(a)+whole(b)+whole(k), was)
		soil(a, lit.Int(8))
		soil(b, lit.Int(8))
		soil(k, lit.Int(8))
		got, _, err := g.DB().Get(x, 0, row(5))
		wants(t, "Get", err, api.OK)
		wants(t, "the row", shownRow(got), "5 6")
		insert(t, g, x, 0, row(7, 6), unique(api.ErrUnique, 0, 0))
		insert(t, g, x, 1, row(7, 8), out(api.ErrForeign, 1, 0))
		aborts(t, g, x)
	}
}

// inUse is how many bytes are held.
func inUse() int64 {
	runtime.GC()
	var m runtime.MemStats
	runtime.ReadMemStats(&m)
	return int64(m.HeapAlloc)
}

// A guard keeps nothing of what was asked.
func TestNothingIsKept(t *testing.T) {
	g := examples(t)
	filled(t, g, 0, row(1, 1))
	before := inUse()
	for i := range 4000 {
		x, y := begin(t, g, serial), begin(t, g, committed)
		insert(t, g, x, 0, row(2, i+5), ok)
		insert(t, g, x, 1, row(2, 2), ok)
		insert(t, g, y, 1, row(3, 2), out(api.ErrForeign, 1, 0))
		insert(t, g, y, 0, row(3, i+5), unique(api.ErrBusy, 0, 0))
		remove(t, g, x, 1, row(2), ok)
		remove(t, g, x, 0, row(2), ok)
		commits(t, g, x)
		aborts(t, g, y)
		if _, err := g.DB().Prune(g.DB().Frontier()); err != api.OK {
			t.Fatal(err)
		}
	}
	if grown := inUse() - before; grown > 1<<20 {
		t.Fatalf("it keeps %d bytes", grown)
	}
	runtime.KeepAlive(g)
}

// R4: guards know nothing of one another.
func TestGuardsAreApart(t *testing.T) {
	a, b := examples(t), examples(t)
	x, y := begin(t, a, snapshot), begin(t, b, snapshot)
	insert(t, a, x, 0, row(1, 5), ok)
	insert(t, b, y, 0, row(2, 5), ok)
	insert(t, b, y, 1, row(1, 1), out(api.ErrForeign, 1, 0))
	commits(t, a, x)
	remove(t, b, y, 0, row(1), only(api.ErrMissing))
	insert(t, b, y, 1, row(1, 2), ok)
	remove(t, b, y, 0, row(2), in(api.ErrForeign, 1, 0))
	insert(t, a, x, 0, row(1, 5), only(api.ErrTxn))
}

// R1: whatever it is given, each call ends.
func TestWildArguments(t *testing.T) {
	g := made(t, worldTexts()...)
	filled(t, g, 2, row("", 0.0, nil))
	ints := []int{-1 << 63, -1, 0, 1, 2, 4, 5, 1<<63 - 1}
	rows := [][]api.Value{nil, row(), row(nil), row(1), row(1, nil, nil, nil), row("", 0.0), row("", 0.0, nil), row(1, 0.0, ""), row(0.0, "", nil), {{Kind: -7, N: 9, F: 1, S: "\xff"}}, make([]api.Value, 100)}
	begin(t, g, serial)
	begin(t, g, snapshot)
	begin(t, g, committed)
	for _, x := range ints {
		for _, table := range ints {
			for _, k := range rows {
				for _, l := range rows {
					for kind := range 3 {
						got := guarded(g, kind, x, table, k, l)
						if got.b.Kind == 0 && got.b != (api.Broken{}) || got.b.Kind != 0 && got.err == api.OK {
							t.Fatalf("a write is told %v", got)
						}
					}
				}
			}
			g.Broken(table, uint64(x))
		}
	}
	for _, x := range g.DB().Active() {
		g.DB().Commit(x)
	}
	nothingBroken(t, g)
}
