package guard_test

import (
	"strings"
	"testing"

	"vellum/api"
	"vellum/lit"
)

// Gu2: whoever would refer to a row must see it, and be sure that it stays.
func TestOut(t *testing.T) {
	for _, level := range levels() {
		g := examples(t)
		filled(t, g, 0, row(1, 1), row(2, 2), row(3, 3), row(4, 4))
		x := begin(t, g, level)
		y := begin(t, g, committed)
		update(t, g, y, 0, row(1), row(1, 9), ok)
		remove(t, g, y, 0, row(2), ok)
		insert(t, g, y, 0, row(5, 5), ok)
		remove(t, g, x, 0, row(4), ok)
		insert(t, g, x, 0, row(6, 6), ok)
		insert(t, g, x, 1, row(1, 1), out(api.ErrBusy, 1, 0))
		insert(t, g, x, 1, row(1, 2), out(api.ErrBusy, 1, 0))
		insert(t, g, x, 1, row(1, 4), out(api.ErrForeign, 1, 0))
		insert(t, g, x, 1, row(1, 5), out(api.ErrForeign, 1, 0))
		insert(t, g, x, 1, row(1, 6), ok)
		commits(t, g, y)
		if level == committed {
			update(t, g, x, 1, row(1), row(1, 1), ok)
			update(t, g, x, 1, row(1), row(1, 2), out(api.ErrForeign, 1, 0))
			update(t, g, x, 1, row(1), row(1, 5), ok)
		} else {
			update(t, g, x, 1, row(1), row(1, 1), out(api.ErrNewer, 1, 0))
			update(t, g, x, 1, row(1), row(1, 2), out(api.ErrNewer, 1, 0))
			update(t, g, x, 1, row(1), row(1, 5), out(api.ErrForeign, 1, 0))
		}
		update(t, g, x, 1, row(1), row(1, 3), ok)
		update(t, g, x, 1, row(1), row(2, nil), ok)
		nothingBroken(t, g)
	}
}

// Gu2: Update with the same key asks for those references alone whose values are others; with another key for all.
func TestOutOfUpdates(t *testing.T) {
	g := made(t, "create table t (f float not null, b int, primary key (f))", "create table u (a int not null, f float, g float, n int, primary key (a), foreign key (f) references t, foreign key (g) references t)")
	filled(t, g, 0, row(0.0, 1), row(1.0, 1), row(lit.Bits(0x7FF8000000000001), 1))
	filled(t, g, 1, row(1, 0.0, lit.Bits(0x7FF8000000000009), 1))
	for _, level := range levels() {
		x, y := begin(t, g, level), begin(t, g, committed)
		update(t, g, y, 0, row(0.0), row(0.0, 2), ok)
		update(t, g, y, 0, row(lit.Bits(0x7FF8000000000002)), row(lit.Bits(0x7FF8000000000003), 2), ok)
		update(t, g, x, 1, row(1), row(1, lit.Bits(1<<63), lit.Bits(0x7FF8000000000004), 2), ok)
		update(t, g, x, 1, row(1), row(2, 0.0, nil, 2), out(api.ErrBusy, 1, 0))
		update(t, g, x, 1, row(1), row(2, nil, lit.Bits(0x7FF8000000000005), 2), out(api.ErrBusy, 1, 1))
		update(t, g, x, 1, row(1), row(1, lit.Bits(0x7FF8000000000005), 2.0, 2), out(api.ErrBusy, 1, 0))
		update(t, g, x, 1, row(1), row(1, 1.0, 2.0, 2), out(api.ErrForeign, 1, 1))
		update(t, g, x, 1, row(1), row(1, 1.0, 1.0, 2), ok)
		aborts(t, g, x)
		aborts(t, g, y)
	}
	nothingBroken(t, g)
}

// Gu2: a key that is longer than any row's has none; and nothing is noted.
func TestOutOfALongKey(t *testing.T) {
	g := made(t, "create table t (a text not null, b text not null, primary key (a, b))", "create table u (k int not null, a text, b text, primary key (k), foreign key (a, b) references t)")
	half := strings.Repeat("x", 510)
	filled(t, g, 0, row(half, half))
	for _, level := range levels() {
		x := begin(t, g, level)
		insert(t, g, x, 1, row(1, half+"x", half), out(api.ErrForeign, 1, 0))
		if level == serial {
			footIs(t, g, x, api.Foot{Points: []api.Point{point(1, -1, 1)}})
		}
		insert(t, g, x, 1, row(1, half, half), ok)
		insert(t, g, x, 1, row(2, strings.Repeat("x", 2000), nil), ok)
		remove(t, g, x, 0, row(half, half), in(api.ErrForeign, 1, 0))
		aborts(t, g, x)
	}
}

// Gu2: a table that refers to itself.
func TestOutAndInOfOneTable(t *testing.T) {
	for _, level := range levels() {
		g := made(t, "create table t (a int not null, b int, primary key (a), foreign key (b) references t)")
		x := begin(t, g, level)
		insert(t, g, x, 0, row(1, 2), out(api.ErrForeign, 0, 0))
		insert(t, g, x, 0, row(1, 1), ok)
		update(t, g, x, 0, row(1), row(2, 1), out(api.ErrForeign, 0, 0))
		update(t, g, x, 0, row(1), row(2, 2), ok)
		insert(t, g, x, 0, row(1, 2), ok)
		update(t, g, x, 0, row(2), row(3, 3), in(api.ErrForeign, 0, 0))
		update(t, g, x, 0, row(2), row(3, 2), out(api.ErrForeign, 0, 0))
		update(t, g, x, 0, row(2), row(2, nil), ok)
		update(t, g, x, 0, row(2), row(2, 2), ok)
		remove(t, g, x, 0, row(2), in(api.ErrForeign, 0, 0))
		remove(t, g, x, 0, row(1), ok)
		remove(t, g, x, 0, row(2), ok)
		insert(t, g, x, 0, row(1, 1), ok)
		commits(t, g, x)
		y, z := begin(t, g, level), begin(t, g, level)
		insert(t, g, y, 0, row(4, 1), ok)
		remove(t, g, z, 0, row(1), in(api.ErrBusy, 0, 0))
		update(t, g, z, 0, row(1), row(5, 5), in(api.ErrBusy, 0, 0))
		update(t, g, z, 0, row(1), row(1, nil), ok)
		insert(t, g, y, 0, row(6, 1), out(api.ErrBusy, 0, 0))
		commits(t, g, y)
		remove(t, g, z, 0, row(1), in(api.ErrForeign, 0, 0))
		aborts(t, g, z)
		nothingBroken(t, g)
	}
}

// Gu2: a row to which one refers does not go: one that is seen, or is there, or may come to be there.
func TestIn(t *testing.T) {
	for _, level := range levels() {
		g := examples(t)
		filled(t, g, 0, row(1, 1), row(2, 2), row(3, 3), row(4, 4))
		filled(t, g, 1, row(1, 1), row(2, 2))
		x, y := begin(t, g, level), begin(t, g, committed)
		update(t, g, y, 1, row(1), row(1, 3), ok)
		save := saves(t, g, y)
		update(t, g, y, 1, row(1), row(1, 4), ok)
		remove(t, g, y, 1, row(2), ok)
		for n := range 2 { // they were, and are at the snapshot and at the newest
			remove(t, g, x, 0, row(1+n), in(api.ErrForeign, 1, 0))
			update(t, g, x, 0, row(1+n), row(9, 9), in(api.ErrForeign, 1, 0))
		}
		remove(t, g, x, 0, row(3), in(api.ErrBusy, 1, 0))
		remove(t, g, x, 0, row(4), in(api.ErrBusy, 1, 0))
		update(t, g, x, 0, row(4), row(9, 9), in(api.ErrBusy, 1, 0))
		update(t, g, x, 0, row(4), row(4, 9), ok)
		wants(t, "Release", g.DB().Release(y, save), api.OK)
		remove(t, g, x, 0, row(3), ok)
		commits(t, g, y)
		remove(t, g, x, 0, row(4), in(api.ErrForeign, 1, 0))
		gone := in(api.ErrForeign, 1, 0)
		if level == committed {
			gone = ok // it sees that nobody refers to them any more
		}
		remove(t, g, x, 0, row(1), gone)
		update(t, g, x, 0, row(2), row(9, 2), gone)
		if _, err := g.DB().Commit(x); (err == api.ErrSerial) != (level == serial) { // it has read all who may refer
			t.Fatalf("Commit: error %d", err)
		}
		nothingBroken(t, g)
	}
}

// Gu2: what the transaction itself wrote counts as it sees it.
func TestInOfOnesOwn(t *testing.T) {
	for _, level := range levels() {
		g := examples(t)
		filled(t, g, 0, row(1, 1), row(2, 2))
		filled(t, g, 1, row(1, 1))
		x := begin(t, g, level)
		update(t, g, x, 1, row(1), row(1, 2), ok)
		save := saves(t, g, x)
		remove(t, g, x, 0, row(1), ok)
		remove(t, g, x, 0, row(2), in(api.ErrForeign, 1, 0))
		wants(t, "Back", g.DB().Back(x, save), api.OK)
		remove(t, g, x, 1, row(1), ok)
		remove(t, g, x, 0, row(2), ok)
		insert(t, g, x, 1, row(2, 2), out(api.ErrForeign, 1, 0))
		insert(t, g, x, 0, row(2, 7), ok)
		insert(t, g, x, 1, row(2, 2), ok)
		commits(t, g, x)
		nothingBroken(t, g)
	}
}

// Gu2: one that is there is told ahead of one that another one has, and one that is seen, whoever has it; by an index and without one, in whichever order they stand.
func TestInAheadOfBusy(t *testing.T) {
	for _, child := range []string{textU, "create table u (c int not null, d int, primary key (c), index i (d), foreign key (d) references t)"} {
		for _, other := range []int{1, 9} {
			g := made(t, textT, child)
			filled(t, g, 0, row(1, 1))
			x, y := begin(t, g, snapshot), begin(t, g, committed)
			insert(t, g, y, 1, row(5, 1), ok)
			remove(t, g, x, 0, row(1), in(api.ErrBusy, 1, 0))
			done(t, g, func(z int) { insert(t, g, z, 1, row(other, 1), ok) })
			remove(t, g, x, 0, row(1), in(api.ErrForeign, 1, 0))
			v := begin(t, g, snapshot)
			z := begin(t, g, committed)
			remove(t, g, z, 1, row(other), ok)
			remove(t, g, v, 0, row(1), in(api.ErrForeign, 1, 0))
			remove(t, g, x, 0, row(1), in(api.ErrBusy, 1, 0))
			commits(t, g, z)
			remove(t, g, v, 0, row(1), in(api.ErrForeign, 1, 0))
			remove(t, g, x, 0, row(1), in(api.ErrBusy, 1, 0))
			aborts(t, g, y)
			remove(t, g, v, 0, row(1), in(api.ErrForeign, 1, 0))
			remove(t, g, x, 0, row(1), ok)
			nothingBroken(t, g)
		}
	}
}

// Gu2: the references of all tables, in order; by keys of two columns, by whichever index.
func TestInInOrder(t *testing.T) {
	const parent = "create table t (a int not null, s text not null, primary key (s, a), foreign key (s, a) references t)"
	for _, ways := range []string{"primary key (k)", "primary key (x, y, k)", "primary key (y, x)", "primary key (k), index i (y), index j (x, k), index l (x, y)", "primary key (k), unique index i (y, x, k)", "primary key (k), index i (x)"} {
		g := made(t,
			"create table b (k int not null, x int not null, y text not null, "+ways+", foreign key (y, x) references t)",
			parent,
			"create table c (k int not null, x int not null, y text not null, z text, "+ways+", foreign key (z, x) references t, foreign key (y, x) references t)",
		)
		filled(t, g, 1, row(1, "p"), row(2, "p"), row(1, "q"), row(2, "q"))
		filled(t, g, 2, row(1, 1, "p", "q"), row(2, 2, "p", nil))
		x := begin(t, g, serial)
		remove(t, g, x, 1, row("p", 1), in(api.ErrForeign, 2, 1))
		remove(t, g, x, 1, row("q", 1), in(api.ErrForeign, 2, 0))
		remove(t, g, x, 1, row("p", 2), in(api.ErrForeign, 2, 1))
		remove(t, g, x, 1, row("q", 2), ok)
		insert(t, g, x, 0, row(1, 1, "p"), ok)
		insert(t, g, x, 0, row(2, 2, "q"), out(api.ErrForeign, 0, 0))
		remove(t, g, x, 1, row("p", 1), in(api.ErrForeign, 0, 0))
		y := begin(t, g, snapshot)
		remove(t, g, y, 1, row("p", 1), in(api.ErrBusy, 0, 0))
		commits(t, g, x)
		nothingBroken(t, g)
	}
}

// Gu2: unique indexes are asked ahead of references out, and these ahead of references in.
func TestAllInOrder(t *testing.T) {
	g := made(t, "create table t (a int not null, b int, c int, primary key (a), unique index i (b), foreign key (c) references t, foreign key (c) references u)", "create table u (a int not null, b int, primary key (a), foreign key (b) references t)")
	x := begin(t, g, snapshot)
	insert(t, g, x, 0, row(1, 1, nil), ok)
	insert(t, g, x, 0, row(2, 2, nil), ok)
	insert(t, g, x, 1, row(1, 1), ok)
	update(t, g, x, 0, row(1), row(7, 2, 8), unique(api.ErrUnique, 0, 0))
	update(t, g, x, 0, row(1), row(7, 3, 8), out(api.ErrForeign, 0, 0))
	update(t, g, x, 0, row(1), row(7, 3, 2), out(api.ErrForeign, 0, 1))
	update(t, g, x, 0, row(1), row(7, 3, nil), in(api.ErrForeign, 1, 0))
	update(t, g, x, 0, row(1), row(1, 3, 2), out(api.ErrForeign, 0, 1))
	update(t, g, x, 0, row(1), row(1, 3, 1), ok)
	update(t, g, x, 0, row(1), row(7, 3, nil), in(api.ErrForeign, 1, 0))
	remove(t, g, x, 0, row(1), in(api.ErrForeign, 1, 0))
	remove(t, g, x, 1, row(1), in(api.ErrForeign, 0, 1))
	commits(t, g, x)
	nothingBroken(t, g)
}
