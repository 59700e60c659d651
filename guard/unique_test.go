package guard_test

import (
	"testing"

	"vellum/api"
	"vellum/lit"
)

// Gu2: a row is held against each other one in an index, not against itself.
func TestUniqueOfUpdates(t *testing.T) {
	for _, level := range levels() {
		g := examples(t)
		filled(t, g, 0, row(1, 5), row(2, 6), row(3, nil))
		x := begin(t, g, level)
		update(t, g, x, 0, row(1), row(1, 5), ok)
		update(t, g, x, 0, row(1), row(1, 6), unique(api.ErrUnique, 0, 0))
		update(t, g, x, 0, row(1), row(9, 6), unique(api.ErrUnique, 0, 0))
		update(t, g, x, 0, row(3), row(3, 6), unique(api.ErrUnique, 0, 0))
		update(t, g, x, 0, row(1), row(9, 5), ok)
		update(t, g, x, 0, row(9), row(1, 5), ok)
		update(t, g, x, 0, row(1), row(1, 7), ok)
		update(t, g, x, 0, row(2), row(2, 5), ok)
		update(t, g, x, 0, row(1), row(1, 6), ok)
		remove(t, g, x, 0, row(2), ok)
		insert(t, g, x, 0, row(4, 5), ok)
		update(t, g, x, 0, row(3), row(3, 5), unique(api.ErrUnique, 0, 0))
		update(t, g, x, 0, row(1), row(1, nil), ok)
		update(t, g, x, 0, row(4), row(4, nil), ok)
		update(t, g, x, 0, row(3), row(3, 6), ok)
		commits(t, g, x)
		wants(t, "the rows", shownRows(rowsAt(t, g.DB(), 0, 2)), "1 null, 3 6, 4 null")
		nothingBroken(t, g)
	}
}

// Gu2: what another one wrote stands in the way as long as it may come, or come back.
func TestUniqueBesideAnother(t *testing.T) {
	for _, level := range levels() {
		g := examples(t)
		filled(t, g, 0, row(1, 5))
		x, y := begin(t, g, committed), begin(t, g, level)
		insert(t, g, x, 0, row(2, 6), ok)
		save := saves(t, g, x)
		update(t, g, x, 0, row(2), row(2, 7), ok)
		update(t, g, x, 0, row(1), row(1, 8), ok)
		for b, want := range map[int]api.Errno{6: api.ErrBusy, 7: api.ErrBusy, 8: api.ErrBusy} {
			insert(t, g, y, 0, row(9, b), unique(want, 0, 0))
		}
		// The first row's newest version has 5 still; snapshots see it, too.
		first := map[int]api.Errno{committed: api.ErrUnique, snapshot: api.ErrUnique, serial: api.ErrUnique}[level]
		insert(t, g, y, 0, row(9, 5), unique(first, 0, 0))
		wants(t, "Release", g.DB().Release(x, save), api.OK)
		insert(t, g, y, 0, row(9, 6), ok)
		update(t, g, y, 0, row(9), row(9, 7), unique(api.ErrBusy, 0, 0))
		commits(t, g, x)
		update(t, g, y, 0, row(9), row(9, 7), unique(api.ErrUnique, 0, 0))
		update(t, g, y, 0, row(9), row(9, 8), unique(api.ErrUnique, 0, 0))
		five := unique(api.ErrUnique, 0, 0)
		if level == committed {
			five = ok // it sees that it is 8 now
		}
		update(t, g, y, 0, row(9), row(9, 5), five)
		nothingBroken(t, g)
	}
}

// Gu2: a row that is there, and that nobody else has, is told ahead of one that another one has, in whichever order they stand; and one that is seen, whoever has it.
func TestUniqueAheadOfBusy(t *testing.T) {
	for _, ahead := range []int{1, 9} {
		g := made(t, "create table t (a int not null, b int, primary key (a), unique index i (b))")
		d := g.DB()
		x, y := begin(t, g, committed), begin(t, g, snapshot)
		wants(t, "Insert", d.Insert(x, 0, row(5, 7)), api.OK)
		z := begin(t, g, committed)
		wants(t, "Insert", d.Insert(z, 0, row(ahead, 7)), api.OK)
		insert(t, g, y, 0, row(4, 7), unique(api.ErrBusy, 0, 0))
		commits(t, g, z)
		insert(t, g, y, 0, row(4, 7), unique(api.ErrUnique, 0, 0))
		w := begin(t, g, snapshot)
		v := begin(t, g, committed)
		remove(t, g, v, 0, row(ahead), ok)
		insert(t, g, w, 0, row(4, 7), unique(api.ErrUnique, 0, 0))
		insert(t, g, y, 0, row(4, 7), unique(api.ErrBusy, 0, 0))
		commits(t, g, v)
		insert(t, g, w, 0, row(4, 7), unique(api.ErrUnique, 0, 0))
		insert(t, g, y, 0, row(4, 7), unique(api.ErrBusy, 0, 0))
		aborts(t, g, x)
		insert(t, g, y, 0, row(4, 7), ok)
	}
}

// Gu2: what is taken back, or gone, stands in nobody's way.
func TestUniqueOfWhatIsGone(t *testing.T) {
	for _, level := range levels() {
		g := examples(t)
		x := begin(t, g, level)
		save := saves(t, g, x)
		insert(t, g, x, 0, row(1, 5), ok)
		wants(t, "Back", g.DB().Back(x, save), api.OK)
		insert(t, g, x, 0, row(2, 5), ok)
		y := begin(t, g, level)
		aborts(t, g, x)
		insert(t, g, y, 0, row(3, 5), ok)
		remove(t, g, y, 0, row(3), ok)
		insert(t, g, y, 0, row(4, 5), ok)
		commits(t, g, y)
		y = begin(t, g, level)
		remove(t, g, y, 0, row(4), ok)
		commits(t, g, y)
		y = begin(t, g, level)
		insert(t, g, y, 0, row(5, 5), ok)
		commits(t, g, y)
		nothingBroken(t, g)
	}
}

// Two rows are the same in an index if all of its columns are, and none is null; by Compare: 0 of both signs, and NaNs of all bits.
func TestWhichRowsAreTheSame(t *testing.T) {
	g := made(t, "create table t (a int not null, f float, s text, b bytes, primary key (a), index i (f), unique index j (s, f), unique index k (b))")
	x := begin(t, g, snapshot)
	insert(t, g, x, 0, row(1, 0.0, "x", nil), ok)
	insert(t, g, x, 0, row(2, lit.Bits(1<<63), "x", nil), unique(api.ErrUnique, 0, 1))
	insert(t, g, x, 0, row(2, lit.Bits(1<<63), "y", nil), ok)
	insert(t, g, x, 0, row(3, 0.0, nil, nil), ok)
	insert(t, g, x, 0, row(4, 0.0, nil, nil), ok)
	insert(t, g, x, 0, row(5, nil, "x", nil), ok)
	insert(t, g, x, 0, row(6, nil, "x", nil), ok)
	insert(t, g, x, 0, row(7, lit.Bits(0x7FF8000000000001), "x", nil), ok)
	insert(t, g, x, 0, row(8, lit.Bits(0xFFF8000000000002), "x", nil), unique(api.ErrUnique, 0, 1))
	insert(t, g, x, 0, row(8, 1.0, "x", lit.Bytes("")), ok)
	insert(t, g, x, 0, row(9, 1.0, "x", lit.Bytes("")), unique(api.ErrUnique, 0, 1))
	insert(t, g, x, 0, row(9, 1.0, "x\x00", lit.Bytes("")), unique(api.ErrUnique, 0, 2))
	insert(t, g, x, 0, row(9, 1.0, "x\x00", lit.Bytes("\x00")), ok)
	update(t, g, x, 0, row(1), row(1, lit.Bits(1<<63), "x", nil), ok)
	commits(t, g, x)
	nothingBroken(t, g)
}

// Gu2: the first index in which rows are the same is told, in whatever order; indexes that are not unique hold nothing up.
func TestUniqueInOrder(t *testing.T) {
	g := made(t, "create table t (a int not null, b int, c int, d int, primary key (a), index i (b), unique index j (c), unique index k (d), unique index l (a, d))")
	filled(t, g, 0, row(1, 1, 1, 1), row(2, 1, 2, 2))
	x := begin(t, g, snapshot)
	insert(t, g, x, 0, row(3, 1, 2, 1), unique(api.ErrUnique, 0, 1))
	insert(t, g, x, 0, row(3, 1, 3, 1), unique(api.ErrUnique, 0, 2))
	y := begin(t, g, snapshot)
	insert(t, g, y, 0, row(9, 1, 3, 9), ok)
	insert(t, g, x, 0, row(3, 1, 3, 1), unique(api.ErrBusy, 0, 1))
	insert(t, g, x, 0, row(3, 1, 4, 9), unique(api.ErrBusy, 0, 2))
	insert(t, g, x, 0, row(3, 1, 4, 3), ok)
	update(t, g, x, 0, row(3), row(1, 1, 4, 3), only(api.ErrExists))
	update(t, g, x, 0, row(3), row(7, 1, 1, 2), unique(api.ErrUnique, 0, 1))
	nothingBroken(t, g)
}

// A unique index over columns of the key.
func TestUniqueOverTheKey(t *testing.T) {
	g := made(t, "create table t (a int not null, b int not null, primary key (a, b), unique index i (b), unique index j (a, b))")
	x := begin(t, g, committed)
	insert(t, g, x, 0, row(1, 1), ok)
	insert(t, g, x, 0, row(2, 1), unique(api.ErrUnique, 0, 0))
	insert(t, g, x, 0, row(2, 2), ok)
	update(t, g, x, 0, row(1, 1), row(1, 2), unique(api.ErrUnique, 0, 0))
	update(t, g, x, 0, row(1, 1), row(7, 1), ok)
	remove(t, g, x, 0, row(7, 1), ok)
	insert(t, g, x, 0, row(1, 1), ok)
	commits(t, g, x)
	nothingBroken(t, g)
}
