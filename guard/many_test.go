package guard_test

import (
	"fmt"
	"strings"
	"testing"

	"vellum/api"
	"vellum/guard"
	"vellum/txn"
)

// As many indexes and references as a table may have: each is told by its number.
func TestMostIndexesAndReferences(t *testing.T) {
	text := "create table u (a int not null"
	for n := range 16 {
		text += fmt.Sprintf(", b%d int, c%d int", n, n)
	}
	text += ", primary key (a)"
	for n := range 16 {
		text += fmt.Sprintf(", unique index i%d (b%d)", n, n)
	}
	for n := range 16 {
		text += fmt.Sprintf(", foreign key (c%d) references t", n)
	}
	g := made(t, text+")", "create table t (a int not null, primary key (a))")
	child := func(a int, at int, v any) []api.Value {
		l := make([]any, 33)
		l[0], l[at] = a, v
		return row(l...)
	}
	x := begin(t, g, serial)
	for n := range 16 {
		insert(t, g, x, 1, row(n), ok)
		insert(t, g, x, 0, child(n, 1+2*n, 7), ok)
		insert(t, g, x, 0, child(99, 1+2*n, 7), unique(api.ErrUnique, 0, n))
		insert(t, g, x, 0, child(99, 2+2*n, 99), out(api.ErrForeign, 0, n))
		insert(t, g, x, 0, child(100+n, 2+2*n, n), ok)
	}
	for n := range 16 {
		remove(t, g, x, 1, row(n), in(api.ErrForeign, 0, n))
	}
	commits(t, g, x)
	nothingBroken(t, g)
}

// As many tables as there may be, each of which refers to the next one.
func TestMostTables(t *testing.T) {
	var texts []string
	for n := range 64 {
		texts = append(texts, fmt.Sprintf("create table t%d (a int not null, b int, primary key (a), foreign key (b) references t%d)", n, (n+1)%64))
	}
	g := made(t, texts...)
	x := begin(t, g, serial)
	insert(t, g, x, 63, row(1, nil), ok)
	for n := 62; n >= 0; n-- {
		insert(t, g, x, n, row(1, 1), ok)
	}
	update(t, g, x, 63, row(1), row(1, 1), ok)
	for n := range 64 {
		remove(t, g, x, n, row(1), in(api.ErrForeign, (n+63)%64, 0))
	}
	commits(t, g, x)
	nothingBroken(t, g)
}

// Keys and values as long as they may be.
func TestLongestKeys(t *testing.T) {
	g := made(t,
		"create table t (a text not null, b int, primary key (a))",
		"create table u (a int not null, b text, c text, primary key (a), foreign key (b) references t)",
		"create table v (a int not null, b text, primary key (a), unique index i (b))",
		"create table w (a int not null, b text, primary key (a), index i (b), foreign key (b) references t)",
	)
	// A text's key has two bytes more, and an int's, here, three.
	for n := 1017; n <= 1024; n++ {
		long := strings.Repeat("x", n)
		x := begin(t, g, serial)
		key, entry := ok, ok
		to := ok
		if n > 1022 {
			key, to = only(api.ErrLong), out(api.ErrForeign, 1, 0)
		}
		if n > 1019 {
			entry = only(api.ErrLong)
		}
		insert(t, g, x, 0, row(long, 1), key)
		insert(t, g, x, 1, row(1, long, long), to)
		insert(t, g, x, 2, row(1, long), entry)
		insert(t, g, x, 3, row(1, long), entry)
		if entry == ok {
			insert(t, g, x, 2, row(2, long), unique(api.ErrUnique, 2, 0))
			remove(t, g, x, 1, row(1), ok)
			remove(t, g, x, 0, row(long), in(api.ErrForeign, 3, 0))
		} else if key == ok {
			remove(t, g, x, 0, row(long), in(api.ErrForeign, 1, 0))
		}
		aborts(t, g, x)
	}
}

// Tables with as many rows as there may be: what is found by an index is found at once.
func TestFullTables(t *testing.T) {
	rows := make([][]api.Value, 1<<16)
	children := make([][]api.Value, 1<<16)
	for i := range rows {
		rows[i] = row(i, i)
		children[i] = row(i, i/2)
	}
	tabs := tables(t, textT, "create table u (c int not null, d int, primary key (c), index i (d), foreign key (d) references t)")
	d, err := txn.Load(tabs, [][][]api.Value{rows, children}, 1)
	wants(t, "Load", err, api.OK)
	g, err := guard.Over(d)
	wants(t, "Over", err, api.OK)
	brokenIs(t, g, 0, 1)
	brokenIs(t, g, 1, 1)
	x := begin(t, g, snapshot)
	insert(t, g, x, 0, row(-1, 5), only(api.ErrFull))
	insert(t, g, x, 1, row(-1, 99999), only(api.ErrFull))
	update(t, g, x, 0, row(40000), row(-1, 5), only(api.ErrFull))
	for i := range 1000 {
		remove(t, g, x, 0, row(i), in(api.ErrForeign, 1, 0))
		remove(t, g, x, 0, row(40000+i), ok)
		update(t, g, x, 0, row(i), row(i, 50000), unique(api.ErrUnique, 0, 0))
		update(t, g, x, 0, row(i), row(i, 40000+i), ok)
		update(t, g, x, 1, row(i), row(i, 40000), out(api.ErrForeign, 1, 0))
	}
	aborts(t, g, x)
	y := begin(t, g, serial)
	remove(t, g, y, 0, row(40000), ok)
	remove(t, g, y, 0, row(7), in(api.ErrForeign, 1, 0))
	commits(t, g, y)
	brokenIs(t, g, 1, 2)
}

// A row with many versions is updated as fast as one with few.
func TestRowsWithManyVersions(t *testing.T) {
	g := examples(t)
	filled(t, g, 0, row(1, 0))
	for i := range 20000 {
		x := begin(t, g, snapshot)
		update(t, g, x, 0, row(1), row(1, i+1), ok)
		commits(t, g, x)
	}
	insert(t, g, begin(t, g, snapshot), 0, row(2, 20000), unique(api.ErrUnique, 0, 0))
	insert(t, g, begin(t, g, snapshot), 0, row(2, 19999), ok)
	brokenIs(t, g, 0, 10000)
}
