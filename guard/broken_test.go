package guard_test

import (
	"fmt"
	"slices"
	"strings"
	"testing"

	"vellum/api"
	"vellum/guard"
	"vellum/lit"
	"vellum/txn"
)

// over is a guard over a database with these rows, which nobody guarded, at the stamp 3.
func over(t *testing.T, tabs []api.Table, rows ...[][]api.Value) *guard.Guard {
	t.Helper()
	d, err := txn.Load(tabs, rows, 3)
	wants(t, "Load", err, api.OK)
	g, err := guard.Over(d)
	wants(t, "Over", err, api.OK)
	return g
}

func broken(table, kind, n int, key ...any) api.Broken {
	return api.Broken{Table: table, Kind: kind, N: n, Key: keyOf(key...)}
}

// Gu3: by the rows in the order of their keys, each one's unique indexes, and then its references.
func TestBroken(t *testing.T) {
	g := over(t, tables(t,
		"create table t (s text not null, a int not null, b int, c int, primary key (a, s), index h (c), unique index i (b), unique index j (c, b), foreign key (b) references u, foreign key (c, s) references t)",
		"create table u (a int not null, primary key (a))",
	), [][]api.Value{
		row("z", 1, 5, 1), row("b", 2, 5, 1), row("a", 2, 7, 5), row("c", 2, nil, 5), row("c", -1, nil, nil), row("d", 3, 7, 5), row("d", 9, 9, nil),
	}, [][]api.Value{row(1), row(7), row(5)})
	const un, out = api.BrokenUnique, api.BrokenOut
	want := []api.Broken{
		broken(0, out, 1, 2, "a"),
		broken(0, un, 1, 2, "b"), broken(0, un, 2, 2, "b"), broken(0, out, 1, 2, "b"),
		broken(0, out, 1, 2, "c"),
		broken(0, un, 1, 3, "d"), broken(0, un, 2, 3, "d"), broken(0, out, 1, 3, "d"),
		broken(0, out, 0, 9, "d"),
	}
	brokenIs(t, g, 0, 3, want...)
	brokenIs(t, g, 1, 3)
}

// Gu3: what Compare does not tell apart is the same; a key that is too long is nobody's.
func TestBrokenByCompare(t *testing.T) {
	nan, other, minus := lit.Bits(0x7FF8000000000001), lit.Bits(0xFFF8000000000002), lit.Bits(1<<63)
	long := strings.Repeat("x", 600)
	g := over(t, tables(t,
		"create table t (f float not null, primary key (f))",
		"create table u (a int not null, f float, g float, primary key (a), unique index i (f, g), foreign key (f) references t)",
		"create table v (a int not null, b text, c text, primary key (a), foreign key (b, c) references w)",
		"create table w (a text not null, b text not null, primary key (a, b))",
	), [][]api.Value{row(0.0), row(nan)}, [][]api.Value{
		row(1, minus, 1.0), row(2, 0.0, 1.0), row(3, 0.0, minus), row(4, minus, 0.0), row(5, other, nan), row(6, nan, other), row(7, nan, nil), row(8, nan, nil), row(9, nil, nil), row(10, 2.0, nil),
	}, [][]api.Value{row(1, long, long), row(2, long, nil), row(3, "x", "y"), row(4, "y", "x")}, [][]api.Value{row("x", "y")})
	brokenIs(t, g, 0, 3)
	brokenIs(t, g, 1, 3,
		broken(1, api.BrokenUnique, 0, 2), broken(1, api.BrokenUnique, 0, 4), broken(1, api.BrokenUnique, 0, 6), broken(1, api.BrokenOut, 0, 10))
	brokenIs(t, g, 2, 3, broken(2, api.BrokenOut, 0, 1), broken(2, api.BrokenOut, 0, 4))
}

// Gu3: at each stamp as it was then; what At refuses.
func TestBrokenAtStamps(t *testing.T) {
	g := examples(t)
	d := g.DB()
	does := func(do func(x int) api.Errno) {
		x := begin(t, g, committed)
		wants(t, "a write that is not guarded", do(x), api.OK)
		commits(t, g, x)
	}
	does(func(x int) api.Errno { return d.Insert(x, 1, row(1, 7)) })
	does(func(x int) api.Errno { return d.Insert(x, 0, row(7, 7)) })
	does(func(x int) api.Errno { return d.Insert(x, 0, row(6, 7)) })
	does(func(x int) api.Errno { return d.Delete(x, 0, row(7)) })
	does(func(x int) api.Errno { return d.Update(x, 1, row(1), row(1, nil)) })
	x := begin(t, g, committed)
	wants(t, "Insert", d.Insert(x, 1, row(2, 99)), api.OK) // nobody sees it
	for stamp, want := range []string{"[] []", "[] [{1 2 0 1}]", "[] []", "[{0 1 0 7}] []", "[] [{1 2 0 1}]", "[] []"} {
		wants(t, fmt.Sprint("what is broken at ", stamp), shownBroken(t, g, 0, uint64(stamp))+" "+shownBroken(t, g, 1, uint64(stamp)), want)
	}
	refuses := func(table int, stamp uint64, want api.Errno) {
		t.Helper()
		l, err := g.Broken(table, stamp)
		if err != want || len(l) != 0 {
			t.Fatalf("Broken of %d at %d: %v, error %d, want error %d", table, stamp, l, err, want)
		}
	}
	refuses(-1, 1, api.ErrNone)
	refuses(2, 99, api.ErrNone)
	refuses(0, 6, api.ErrArg)
	refuses(1, 1<<63, api.ErrArg)
	if _, err := d.Prune(4); err != api.OK {
		t.Fatal(err)
	}
	refuses(1, 3, api.ErrLow)
	refuses(2, 3, api.ErrNone)
	brokenIs(t, g, 1, 4, broken(1, api.BrokenOut, 0, 1))
}

func shownBroken(t *testing.T, g *guard.Guard, table int, stamp uint64) string {
	t.Helper()
	l, err := g.Broken(table, stamp)
	wants(t, "Broken", err, api.OK)
	for i := range l {
		l[i].Key = shownKey(l[i].Key)
	}
	return fmt.Sprint(l)
}

// Broken asks only: nothing changes, and each answer is new.
func TestBrokenChangesNothing(t *testing.T) {
	g := over(t, tables(t, textT, textU), [][]api.Value{row(1, 5), row(2, 5)}, [][]api.Value{row(1, 9)})
	begin(t, g, serial)
	was := state(t, g.DB())
	first, _ := g.Broken(0, 3)
	again, _ := g.Broken(0, 3)
	wants(t, "the state", state(t, g.DB()), was)
	soil(first, api.Broken{Key: "soiled"})
	if !slices.Equal(again, []api.Broken{broken(0, api.BrokenUnique, 0, 2)}) {
		t.Fatalf("the second answer: %v", again)
	}
	brokenIs(t, g, 0, 3, again...)
}
