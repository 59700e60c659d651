package guard_test

import (
	"slices"
	"strings"
	"testing"

	"vellum/api"
	"vellum/guard"
	"vellum/sets"
)

// noted begins a serializable one, lets it do something, and holds what it noted against what is wanted; of the other levels it notes what it writes alone.
func noted(t *testing.T, g *guard.Guard, do func(x int), want api.Foot) {
	t.Helper()
	want, err := sets.Norm(want)
	wants(t, "Norm", err, api.OK)
	for _, level := range levels() {
		x := begin(t, g, level)
		do(x)
		if level != serial {
			footIs(t, g, x, api.Foot{Writes: want.Writes})
		} else {
			footIs(t, g, x, want)
		}
		aborts(t, g, x)
	}
}

const (
	noteT = "create table t (a int not null, b int, c int, d int, primary key (a), index h (d), unique index i (b), unique index j (c, d), foreign key (d) references t)"
	noteU = "create table u (a int not null, b int, c int, primary key (a), unique index i (c), foreign key (b) references t, foreign key (c) references t)"
)

// family is t with the rows 1, 1, 1, null and 2, 2, 2, 1, and u with 1, 2, null.
func family(t *testing.T) *guard.Guard {
	t.Helper()
	g := made(t, noteT, noteU)
	filled(t, g, 0, row(1, 1, 1, nil), row(2, 2, 2, 1))
	filled(t, g, 1, row(1, 2, nil))
	return g
}

func points(l ...[]api.Point) []api.Point { return slices.Concat(l...) }

// tRow and uRow are where such a row stands.
func tRow(a, b, c, d any) []api.Point {
	return []api.Point{point(0, -1, a), point(0, 0, d, a), point(0, 1, b, a), point(0, 2, c, d, a)}
}

func uRow(a, b, c any) []api.Point {
	return []api.Point{point(1, -1, a), point(1, 0, c, a)}
}

// What an Insert reads: the span of its values in each unique index, but where one is null; and the keys to which it refers.
func TestInsertNotes(t *testing.T) {
	g := family(t)
	noted(t, g, func(x int) { insert(t, g, x, 0, row(3, 3, 3, 2), ok) }, api.Foot{
		Points: points([]api.Point{point(0, -1, 3), point(0, -1, 2)}),
		Spans:  []api.Span{span(0, 1, begins(3)), span(0, 2, begins(3, 2))},
		Writes: tRow(3, 3, 3, 2),
	})
	noted(t, g, func(x int) { insert(t, g, x, 0, row(3, nil, 3, nil), ok) }, api.Foot{
		Points: []api.Point{point(0, -1, 3)},
		Writes: tRow(3, nil, 3, nil),
	})
	noted(t, g, func(x int) { insert(t, g, x, 0, row(3, 3, nil, 3), ok) }, api.Foot{
		Points: []api.Point{point(0, -1, 3)},
		Spans:  []api.Span{span(0, 1, begins(3))},
		Writes: tRow(3, 3, nil, 3),
	})
	noted(t, g, func(x int) { insert(t, g, x, 1, row(3, 1, 2), ok) }, api.Foot{
		Points: []api.Point{point(1, -1, 3), point(0, -1, 1), point(0, -1, 2)},
		Spans:  []api.Span{span(1, 0, begins(2))},
		Writes: uRow(3, 1, 2),
	})
}

// Up to where something is refused, that one too.
func TestRefusedOnesNote(t *testing.T) {
	g := family(t)
	noted(t, g, func(x int) { insert(t, g, x, 0, row(3, 1, 3, 9), unique(api.ErrUnique, 0, 1)) }, api.Foot{
		Points: []api.Point{point(0, -1, 3)},
		Spans:  []api.Span{span(0, 1, begins(1))},
	})
	noted(t, g, func(x int) { insert(t, g, x, 0, row(3, 3, 2, 1), unique(api.ErrUnique, 0, 2)) }, api.Foot{
		Points: []api.Point{point(0, -1, 3)},
		Spans:  []api.Span{span(0, 1, begins(3)), span(0, 2, begins(2, 1))},
	})
	noted(t, g, func(x int) { insert(t, g, x, 0, row(3, 3, 2, 9), out(api.ErrForeign, 0, 0)) }, api.Foot{
		Points: []api.Point{point(0, -1, 3), point(0, -1, 9)},
		Spans:  []api.Span{span(0, 1, begins(3)), span(0, 2, begins(2, 9))},
	})
	noted(t, g, func(x int) { insert(t, g, x, 1, row(3, 9, 1), out(api.ErrForeign, 1, 0)) }, api.Foot{
		Points: []api.Point{point(1, -1, 3), point(0, -1, 9)},
		Spans:  []api.Span{span(1, 0, begins(1))},
	})
	noted(t, g, func(x int) { insert(t, g, x, 1, row(3, 1, 9), out(api.ErrForeign, 1, 1)) }, api.Foot{
		Points: []api.Point{point(1, -1, 3), point(0, -1, 9), point(0, -1, 1)},
		Spans:  []api.Span{span(1, 0, begins(9))},
	})
	noted(t, g, func(x int) { remove(t, g, x, 0, row(1), in(api.ErrForeign, 0, 0)) }, api.Foot{
		Spans: []api.Span{span(0, -1, all())},
	})
	noted(t, g, func(x int) { remove(t, g, x, 0, row(2), in(api.ErrForeign, 1, 0)) }, api.Foot{
		Spans: []api.Span{span(0, -1, all()), span(1, -1, all())},
	})
	noted(t, g, func(x int) { insert(t, g, x, 0, row(1, 3, 3, 3), only(api.ErrExists)) }, api.Foot{Points: []api.Point{point(0, -1, 1)}})
	other := begin(t, g, committed)
	update(t, g, other, 0, row(2), row(2, 7, 2, 1), ok)
	noted(t, g, func(x int) { insert(t, g, x, 0, row(3, 7, 9, 9), unique(api.ErrBusy, 0, 1)) }, api.Foot{
		Points: []api.Point{point(0, -1, 3)},
		Spans:  []api.Span{span(0, 1, begins(7))},
	})
	noted(t, g, func(x int) { insert(t, g, x, 1, row(3, 2, 9), out(api.ErrBusy, 1, 0)) }, api.Foot{
		Points: []api.Point{point(1, -1, 3), point(0, -1, 2)},
		Spans:  []api.Span{span(1, 0, begins(9))},
	})
}

// What an Update and a Delete read.
func TestUpdatesAndDeletesNote(t *testing.T) {
	g := family(t)
	noted(t, g, func(x int) { update(t, g, x, 0, row(2), row(2, 2, 2, 1), ok) }, api.Foot{
		Points: []api.Point{point(0, -1, 2)},
		Writes: tRow(2, 2, 2, 1),
	})
	noted(t, g, func(x int) { update(t, g, x, 0, row(2), row(2, 3, 2, 2), ok) }, api.Foot{
		Points: []api.Point{point(0, -1, 2)},
		Spans:  []api.Span{span(0, 1, begins(3)), span(0, 2, begins(2, 2))},
		Writes: points(tRow(2, 2, 2, 1), tRow(2, 3, 2, 2)),
	})
	noted(t, g, func(x int) { update(t, g, x, 1, row(1), row(3, 2, nil), ok) }, api.Foot{
		Points: []api.Point{point(1, -1, 1), point(1, -1, 3), point(0, -1, 2)},
		Writes: points(uRow(1, 2, nil), uRow(3, 2, nil)),
	})
	noted(t, g, func(x int) { update(t, g, x, 1, row(1), row(1, 2, nil), ok) }, api.Foot{
		Points: []api.Point{point(1, -1, 1)},
		Writes: uRow(1, 2, nil),
	})
	noted(t, g, func(x int) { update(t, g, x, 0, row(2), row(3, 2, 2, 2), out(api.ErrForeign, 0, 0)) }, api.Foot{
		Points: []api.Point{point(0, -1, 2), point(0, -1, 3)},
		Spans:  []api.Span{span(0, 2, begins(2, 2))},
	})
	noted(t, g, func(x int) { update(t, g, x, 0, row(2), row(3, 2, 2, nil), in(api.ErrForeign, 1, 0)) }, api.Foot{
		Spans: []api.Span{span(0, -1, all()), span(1, -1, all())},
	})
	noted(t, g, func(x int) { remove(t, g, x, 1, row(1), ok) }, api.Foot{
		Points: []api.Point{point(1, -1, 1)},
		Writes: uRow(1, 2, nil),
	})
	done(t, g, func(x int) { remove(t, g, x, 1, row(1), ok) })
	noted(t, g, func(x int) { remove(t, g, x, 0, row(2), ok) }, api.Foot{
		Spans:  []api.Span{span(0, -1, all()), span(1, -1, all())},
		Writes: tRow(2, 2, 2, 1),
	})
	noted(t, g, func(x int) { update(t, g, x, 0, row(2), row(3, 2, 2, 1), ok) }, api.Foot{
		Points: []api.Point{},
		Spans:  []api.Span{span(0, -1, all()), span(1, -1, all())},
		Writes: points(tRow(2, 2, 2, 1), tRow(3, 2, 2, 1)),
	})
}

// So a serializable one that was told of something does not commit, if that is so no more.
func TestNotesMeetCommits(t *testing.T) {
	for _, c := range []struct {
		what  string
		reads func(g *guard.Guard, x int)
		other func(g *guard.Guard, y int)
	}{
		{"a row that is the same comes and goes", func(g *guard.Guard, x int) {
			insert(t, g, x, 0, row(3, 3, 3, nil), ok)
		}, func(g *guard.Guard, y int) {
			update(t, g, y, 0, row(1), row(1, 3, 1, nil), unique(api.ErrBusy, 0, 1))
			update(t, g, y, 0, row(1), row(1, 4, 1, nil), ok)
		}},
		{"a row that was the same goes", func(g *guard.Guard, x int) {
			insert(t, g, x, 0, row(3, 1, 3, nil), unique(api.ErrUnique, 0, 1))
			insert(t, g, x, 0, row(3, nil, 3, nil), ok)
		}, func(g *guard.Guard, y int) {
			update(t, g, y, 0, row(1), row(1, 5, 1, nil), ok)
		}},
		{"a row that was not there comes", func(g *guard.Guard, x int) {
			insert(t, g, x, 1, row(3, 9, nil), out(api.ErrForeign, 1, 0))
			insert(t, g, x, 1, row(3, nil, nil), ok)
		}, func(g *guard.Guard, y int) {
			insert(t, g, y, 0, row(9, nil, nil, nil), ok)
		}},
		{"a row that referred goes", func(g *guard.Guard, x int) {
			remove(t, g, x, 0, row(2), in(api.ErrForeign, 1, 0))
			insert(t, g, x, 0, row(3, nil, nil, nil), ok)
		}, func(g *guard.Guard, y int) {
			remove(t, g, y, 1, row(1), ok)
		}},
	} {
		g := family(t)
		x, y := begin(t, g, serial), begin(t, g, committed)
		c.reads(g, x)
		c.other(g, y)
		commits(t, g, y)
		_, err := g.DB().Commit(x)
		want := api.ErrSerial
		if strings.HasSuffix(c.what, "comes and goes") {
			want = api.OK // what the other one wrote is not in what was read
		}
		wants(t, "Commit where "+c.what, err, want)
	}
}

// reader begins a serializable one that has noted so many points, far from all others.
func reader(t *testing.T, g *guard.Guard, n int) int {
	t.Helper()
	x := begin(t, g, serial)
	for i := range n {
		_, _, err := g.DB().Get(x, 0, row(-1-i))
		wants(t, "Get", err, api.OK)
	}
	return x
}

func sizeOf(t *testing.T, g *guard.Guard, x int) int {
	t.Helper()
	f, err := g.DB().Foot(x)
	wants(t, "Foot", err, api.OK)
	return len(f.Points) + len(f.Spans) + len(f.Writes)
}

// Who can't note what it reads is told ErrFull where it would read; nothing is broken then.
func TestFullFeet(t *testing.T) {
	g := made(t, "create table t (a int not null, primary key (a))",
		"create table u (a int not null, b int, c text, d text, e int, primary key (a), foreign key (b) references t, foreign key (c, d) references v, foreign key (e) references t)",
		"create table v (a text not null, b text not null, primary key (a, b))",
		"create table w (a int not null, b int, primary key (a), unique index i (b))")
	filled(t, g, 0, row(1), row(2))
	filled(t, g, 1, row(1, 2, nil, nil, nil))
	filled(t, g, 2, row("p", "q"))
	filled(t, g, 3, row(1, 1))
	long := strings.Repeat("x", 600)

	x := reader(t, g, 65534) // one point more, one write
	insert(t, g, x, 1, row(2, nil, long, long, nil), out(api.ErrForeign, 1, 1))
	wants(t, "the size", sizeOf(t, g, x), 65535)
	insert(t, g, x, 1, row(2, 9, "p", "q", nil), out(api.ErrForeign, 1, 0))
	wants(t, "the size", sizeOf(t, g, x), 65536)
	insert(t, g, x, 1, row(2, nil, nil, nil, nil), only(api.ErrFull))
	aborts(t, g, x)

	x = reader(t, g, 65534)
	insert(t, g, x, 1, row(2, 1, long, long, nil), out(api.ErrForeign, 1, 1))
	aborts(t, g, x)
	x = reader(t, g, 65534)
	insert(t, g, x, 1, row(2, 1, "p", "z", nil), only(api.ErrFull))
	wants(t, "the size", sizeOf(t, g, x), 65536)
	aborts(t, g, x)
	x = reader(t, g, 65533)
	insert(t, g, x, 1, row(2, 1, nil, nil, 2), only(api.ErrFull)) // the write finds no room
	aborts(t, g, x)
	x = reader(t, g, 65532)
	insert(t, g, x, 1, row(2, 1, nil, nil, 2), ok)
	wants(t, "the size", sizeOf(t, g, x), 65536)
	aborts(t, g, x)

	x = reader(t, g, 65533) // a point, a span; two writes are too many
	insert(t, g, x, 3, row(2, 2), only(api.ErrFull))
	wants(t, "the size", sizeOf(t, g, x), 65535)
	aborts(t, g, x)
	x = reader(t, g, 65533)
	insert(t, g, x, 3, row(2, 1), unique(api.ErrUnique, 3, 0))
	wants(t, "the size", sizeOf(t, g, x), 65535)
	aborts(t, g, x)
	x = reader(t, g, 65532)
	insert(t, g, x, 3, row(2, 2), ok)
	aborts(t, g, x)

	x = reader(t, g, 65534)
	remove(t, g, x, 0, row(2), in(api.ErrForeign, 1, 0))
	wants(t, "the size", sizeOf(t, g, x), 65536)
	remove(t, g, x, 0, row(1), only(api.ErrFull))
	aborts(t, g, x)
	x = reader(t, g, 65534)
	remove(t, g, x, 0, row(1), only(api.ErrFull)) // the second reference finds no room
	wants(t, "the size", sizeOf(t, g, x), 65536)
	wants(t, "what it wrote", func() int { i, _ := g.DB().Info(x); return i.Writes }(), 0)
	aborts(t, g, x)

	x = begin(t, g, snapshot) // others note no reads
	remove(t, g, x, 0, row(1), ok)
	insert(t, g, x, 3, row(2, 2), ok)
}
