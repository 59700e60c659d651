package guard_test

import (
	"fmt"
	"reflect"
	"strings"
	"testing"

	"vellum/api"
	"vellum/guard"
	"vellum/txn"
)

func newTells(t *testing.T, what string, l []api.Table, want api.Errno) {
	t.Helper()
	g, err := guard.New(l)
	if err != want || (g != nil) != (want == api.OK) {
		t.Fatalf("New of %s: %v, error %d, want error %d", what, g, err, want)
	}
	d, dbErr := txn.New(l)
	if dbErr != api.OK {
		wants(t, "New of "+what+", as layer 20", err, dbErr)
		return
	}
	g, err = guard.Over(d)
	if err != want || (g != nil) != (want == api.OK) {
		t.Fatalf("Over %s: %v, error %d, want error %d", what, g, err, want)
	}
}

// Gu1: which references may be.
func TestLinks(t *testing.T) {
	const (
		one  = "create table t (a int not null, b int, primary key (a))"
		both = "create table t (a int not null, b text not null, c float, primary key (b, a))"
	)
	child := func(ref string) string {
		return "create table u (k int not null, i int, j int, f float, s text, y bytes, o bool, primary key (k), " + ref + ")"
	}
	for _, c := range []struct {
		parent, ref string
		want        api.Errno
	}{
		{one, "foreign key (i) references t", api.OK},
		{one, "foreign key (k) references t", api.OK},
		{one, "foreign key (k) references u", api.OK},
		{one, "foreign key (j) references u", api.OK},
		{one, "foreign key (i) references t, foreign key (i) references t", api.OK},
		{one, "foreign key (i) references v", api.ErrLink},
		{one, "foreign key (f) references t", api.ErrLink},
		{one, "foreign key (s) references t", api.ErrLink},
		{one, "foreign key (o) references t", api.ErrLink},
		{one, "foreign key (i, j) references t", api.ErrLink},
		{one, "foreign key (f) references u", api.ErrLink},
		{one, "foreign key (i) references t, foreign key (f) references t", api.ErrLink},
		{both, "foreign key (s, i) references t", api.OK},
		{both, "foreign key (i, s) references t", api.ErrLink},
		{both, "foreign key (s) references t", api.ErrLink},
		{both, "foreign key (s, i, f) references t", api.ErrLink},
		{both, "foreign key (y, i) references t", api.ErrLink},
	} {
		newTells(t, c.ref, tables(t, c.parent, child(c.ref)), c.want)
		newTells(t, c.ref+", the other way round", tables(t, child(c.ref), c.parent), c.want)
	}
	newTells(t, "a table alone that leads to itself", tables(t, "create table t (a int not null, b int, primary key (a), foreign key (b) references t)"), api.OK)
	newTells(t, "a table alone that leads to another one", tables(t, textU), api.ErrLink)
	newTells(t, "a round", tables(t, "create table t (a int not null, b int, primary key (a), foreign key (b) references u)", textU), api.OK)
}

// Gu1: what layer 20 refuses is told ahead of ErrLink.
func TestNewRefuses(t *testing.T) {
	newTells(t, "no tables", nil, api.ErrTables)
	two := tables(t, textU, textU)
	newTells(t, "two of one name, which may not be linked either", two, api.ErrTables)
	l := tables(t, textU, textT)
	l[1].Name = "int"
	newTells(t, "a table whose name is none", l, api.ErrName)
	l = tables(t, textU, textT)
	l[0].Refs[0].Columns = []int{7}
	newTells(t, "a reference by a column that is not there", l, api.ErrKeyless)
	l = tables(t, textU)
	l[0].Key = nil
	newTells(t, "a table without a key", l, api.ErrKeyless)
	var most []api.Table
	for n := range 64 {
		most = append(most, tables(t, fmt.Sprintf("create table t%d (a int not null, b int, primary key (a), foreign key (b) references t%d)", n, (n+1)%64))[0])
	}
	newTells(t, "as many tables as there may be", most, api.OK)
	newTells(t, "one more", append(most, tables(t, textT)[0]), api.ErrTables)
	newTells(t, "one less, to which another one leads", most[:63], api.ErrLink)
}

// Gu1: Over of no database, and of one with rows, which are as they are.
func TestOver(t *testing.T) {
	var none txn.DB
	for _, d := range []*txn.DB{nil, &none} {
		g, err := guard.Over(d)
		if g != nil || err != api.ErrArg {
			t.Fatalf("Over of no database: %v, error %d", g, err)
		}
	}
	d, err := txn.Load(tables(t, textT, textU), [][][]api.Value{{row(1, 5), row(2, 5)}, {row(3, 2), row(4, 9)}}, 7)
	wants(t, "Load", err, api.OK)
	x, err := d.Begin(serial)
	wants(t, "Begin", err, api.OK)
	was := state(t, d)
	g, err := guard.Over(d)
	wants(t, "Over", err, api.OK)
	wants(t, "the database", g.DB(), d)
	wants(t, "what is there", state(t, d), was)
	brokenIs(t, g, 0, 7, api.Broken{Kind: api.BrokenUnique, Key: keyOf(2)})
	brokenIs(t, g, 1, 7, api.Broken{Table: 1, Kind: api.BrokenOut, Key: keyOf(4)})
	remove(t, g, x, 0, row(2), in(api.ErrForeign, 1, 0))
	insert(t, g, x, 0, row(9, 8), ok)
	remove(t, g, x, 0, row(1), ok)
	commits(t, g, x)
	brokenIs(t, g, 0, 8)
	brokenIs(t, g, 1, 8)
}

// Gu1: New gives a database without rows, of these tables.
func TestNew(t *testing.T) {
	l := tables(t, textT, textU)
	g := examples(t)
	wants(t, "the tables", fmt.Sprint(g.DB().Tables()), fmt.Sprint(l))
	wants(t, "the frontier", g.DB().Frontier(), 0)
	for n := range l {
		wants(t, "how many rows", len(rowsAt(t, g.DB(), n, 0)), 0)
	}
	if other := examples(t); g.DB() == other.DB() || g.DB() != g.DB() {
		t.Fatal("two guards have one database, or one has two")
	}
}

// Of a Guard that New and Over did not give, a copy of one too, nothing is told.
func TestGuardsThatNobodyGave(t *testing.T) {
	var none, copied guard.Guard
	reflect.ValueOf(&copied).Elem().Set(reflect.ValueOf(examples(t)).Elem())
	for _, g := range []*guard.Guard{nil, &none, &copied} {
		if d := g.DB(); d != nil {
			t.Fatalf("DB: %v", d)
		}
		insert(t, g, 1, 0, row(1, 2), only(api.ErrArg))
		update(t, g, 1, 0, row(1), row(1, 2), only(api.ErrArg))
		remove(t, g, 1, 0, row(1), only(api.ErrArg))
		l, err := g.Broken(0, 0)
		if len(l) != 0 || err != api.ErrArg {
			t.Fatalf("Broken: %v, error %d", l, err)
		}
	}
}

// Gu2: what layer 20 refuses is told ahead of all, and nothing is broken then; nothing is written, and what is noted is what layer 20 notes.
func TestWhatLayer20Refuses(t *testing.T) {
	long := strings.Repeat("x", 1100)
	texts := []string{"create table t (a text not null, b int, c text, primary key (a), unique index i (b), index j (c), foreign key (b) references u)", "create table u (a int not null, primary key (a))"}
	for _, level := range levels() {
		g, plain := made(t, texts...), made(t, texts...)
		each := func(do func(d *txn.DB, write func(kind int, x, table int, k, l []api.Value) told)) {
			do(plain.DB(), func(kind int, x, table int, k, l []api.Value) told {
				return only(layer20(plain.DB(), kind, x, table, k, l))
			})
			do(g.DB(), func(kind int, x, table int, k, l []api.Value) told { return guarded(g, kind, x, table, k, l) })
		}
		each(func(d *txn.DB, write func(kind int, x, table int, k, l []api.Value) told) {
			x, _ := d.Begin(committed)
			d.Insert(x, 0, row("a", nil, nil))
			d.Insert(x, 0, row("b", nil, nil))
			d.Insert(x, 0, row("c", nil, nil))
			d.Commit(x)
			old, _ := d.BeginAt(1)
			y, _ := d.Begin(level)
			z, _ := d.Begin(committed)
			d.Update(z, 0, row("c"), row("c", nil, nil))
			d.Commit(z)
			z, _ = d.Begin(committed)
			d.Update(z, 0, row("b"), row("b", nil, nil))
			for _, c := range []struct {
				kind, x, table int
				k, l           []api.Value
				want           api.Errno
			}{
				{0, 99, 0, nil, row("a", 1, nil), api.ErrTxn},
				{0, 0, 0, nil, row("a", 1, nil), api.ErrTxn},
				{0, old, 0, nil, row("z", 1, nil), api.ErrReads},
				{0, y, 2, nil, row("a", 1, nil), api.ErrNone},
				{0, y, -1, nil, row("a", 1, nil), api.ErrNone},
				{0, y, 0, nil, row("a", 1), api.ErrArg},
				{0, y, 0, nil, nil, api.ErrArg},
				{0, y, 0, nil, row(nil, 1, nil), api.ErrNull},
				{0, y, 0, nil, row("a", "b", nil), api.ErrColumn},
				{0, y, 0, nil, row("\xff", 1, nil), api.ErrValue},
				{0, y, 0, nil, row(long, 1, nil), api.ErrLong},
				{0, y, 0, nil, row("z", 1, long), api.ErrLong},
				{0, y, 0, nil, row("b", 1, nil), api.ErrBusy},
				{0, y, 0, nil, row("a", 1, nil), api.ErrExists},
				{1, y, 0, nil, row("a", 1, nil), api.ErrArg},
				{1, y, 0, row(1), row("a", 1, nil), api.ErrArg},
				{1, y, 0, row("a", "b"), row("a", 1, nil), api.ErrArg},
				{1, y, 0, row("\xff"), row("a", 1, nil), api.ErrValue},
				{1, y, 0, row(long), row("a", 1, nil), api.ErrLong},
				{1, y, 0, row("y"), row("a", 1, nil), api.ErrMissing},
				{1, y, 0, row("a"), row("b", 1, nil), api.ErrBusy},
				{1, y, 0, row("b"), row("a", 1, nil), api.ErrBusy},
				{1, y, 0, row("a"), row("a", 1), api.ErrArg},
				{2, y, 0, nil, nil, api.ErrArg},
				{2, y, 0, row(nil), nil, api.ErrArg},
				{2, y, 0, row("y"), nil, api.ErrMissing},
				{2, y, 0, row("b"), nil, api.ErrBusy},
				{2, y, 7, row("b"), nil, api.ErrNone},
				{2, 1, 0, row("b"), nil, api.ErrTxn},
				{2, old, 0, row("a"), nil, api.ErrReads},
			} {
				wants(t, fmt.Sprint("a write of the kind ", c.kind, " of ", shownRow(c.k), " and ", shownRow(c.l)), write(c.kind, c.x, c.table, c.k, c.l), only(c.want))
			}
			newer := map[int]api.Errno{committed: api.ErrExists, snapshot: api.ErrNewer, serial: api.ErrNewer}[level]
			wants(t, "an Insert of one that is newer", write(0, y, 0, nil, row("c", 1, nil)), only(newer))
			wants(t, "an Update to one that is newer", write(1, y, 0, row("a"), row("c", 1, nil)), only(newer))
		})
		wants(t, "what is there", state(t, g.DB()), state(t, plain.DB()))
	}
}

// guarded writes through a guard: 0 inserts, 1 updates, 2 deletes.
func guarded(g *guard.Guard, kind, x, table int, k, l []api.Value) told {
	var b api.Broken
	var err api.Errno
	switch kind {
	case 0:
		b, err = g.Insert(x, table, l)
	case 1:
		b, err = g.Update(x, table, k, l)
	default:
		b, err = g.Delete(x, table, k)
	}
	return told{b, err}
}

// layer20 writes without one.
func layer20(d *txn.DB, kind, x, table int, k, l []api.Value) api.Errno {
	switch kind {
	case 0:
		return d.Insert(x, table, l)
	case 1:
		return d.Update(x, table, k, l)
	default:
		return d.Delete(x, table, k)
	}
}

// try20 asks what it would be refused for.
func try20(d *txn.DB, kind, x, table int, k, l []api.Value) api.Errno {
	switch kind {
	case 0:
		return d.TryInsert(x, table, l)
	case 1:
		return d.TryUpdate(x, table, k, l)
	default:
		return d.TryDelete(x, table, k)
	}
}
