package vacuum_test

import (
	"fmt"
	"math"
	"slices"
	"strings"
	"testing"

	"vellum/api"
	"vellum/lit"
	"vellum/schema"
	"vellum/txn"
	"vellum/vacuum"
)

const (
	committed = api.LevelCommitted
	snapshot  = api.LevelSnapshot
	serial    = api.LevelSerial
)

// The table of the chapter's examples, and of stories: an int a, the key, an int b, and an index over b.
const textT = "create table t (a int not null, b int, primary key (a), index i (b))"

func wants[T comparable](t *testing.T, what string, got, want T) {
	t.Helper()
	if got != want {
		t.Fatalf("%s: %v, want %v", what, got, want)
	}
}

// tables are those of texts.
func tables(t *testing.T, texts ...string) []api.Table {
	t.Helper()
	var l []api.Table
	for _, text := range texts {
		tab, err := schema.Parse(text)
		wants(t, "Parse of "+text, err, api.OK)
		l = append(l, tab)
	}
	return l
}

// made is a database without rows.
func made(t *testing.T, texts ...string) *txn.DB {
	t.Helper()
	d, err := txn.New(tables(t, texts...))
	if d == nil || err != api.OK {
		t.Fatalf("New: %v, error %d", d, err)
	}
	return d
}

// valueOf is the value of what Go has for it: an int, a float, a text, a value, or nil.
func valueOf(v any) api.Value {
	switch v := v.(type) {
	case int:
		return lit.Int(int64(v))
	case float64:
		return lit.Float(v)
	case string:
		return lit.Text(v)
	case api.Value:
		return v
	}
	return lit.Null()
}

// row is values.
func row(l ...any) []api.Value {
	var values []api.Value
	for _, v := range l {
		values = append(values, valueOf(v))
	}
	return values
}

func all() api.Range { return api.Range{Open: true} }

func begin(t *testing.T, d *txn.DB, level int) int {
	t.Helper()
	x, err := d.Begin(level)
	wants(t, "Begin", err, api.OK)
	return x
}

func beginAt(t *testing.T, d *txn.DB, stamp uint64) int {
	t.Helper()
	x, err := d.BeginAt(stamp)
	wants(t, "BeginAt", err, api.OK)
	return x
}

func commits(t *testing.T, d *txn.DB, x int) uint64 {
	t.Helper()
	stamp, err := d.Commit(x)
	wants(t, "Commit", err, api.OK)
	return stamp
}

func aborts(t *testing.T, d *txn.DB, x int) {
	t.Helper()
	wants(t, "Abort", d.Abort(x), api.OK)
}

// The following ones must not be refused; they work on table 0.

func inserts(t *testing.T, d *txn.DB, x int, l ...any) {
	t.Helper()
	wants(t, "Insert", d.Insert(x, 0, row(l...)), api.OK)
}

func updates(t *testing.T, d *txn.DB, x, k int, l ...any) {
	t.Helper()
	wants(t, "Update", d.Update(x, 0, row(k), row(l...)), api.OK)
}

func deletes(t *testing.T, d *txn.DB, x, k int) {
	t.Helper()
	wants(t, "Delete", d.Delete(x, 0, row(k)), api.OK)
}

func gets(t *testing.T, d *txn.DB, x, k int, want string) {
	t.Helper()
	l, there, err := d.Get(x, 0, row(k))
	if err != api.OK || there != (want != "") || shownRow(l) != want {
		t.Fatalf("Get of %d by %d: %s, %v, error %d, want %q", k, x, shownRow(l), there, err, want)
	}
}

// done begins a transaction, lets it do something, and commits it.
func done(t *testing.T, d *txn.DB, do func(x int)) uint64 {
	t.Helper()
	x := begin(t, d, committed)
	do(x)
	return commits(t, d, x)
}

// thrice is a database with a row that was written at the stamps 1, 2 and 3.
func thrice(t *testing.T) *txn.DB {
	t.Helper()
	d := made(t, textT)
	done(t, d, func(x int) { inserts(t, d, x, 1, 1) })
	done(t, d, func(x int) { updates(t, d, x, 1, 1, 2) })
	done(t, d, func(x int) { updates(t, d, x, 1, 1, 3) })
	return d
}

func looks(t *testing.T, d *txn.DB, want ...api.Waste) {
	t.Helper()
	was := state(t, d)
	l, err := vacuum.Look(d)
	if err != api.OK || !slices.Equal(l, want) {
		t.Fatalf("Look: %+v, error %d, want %+v", l, err, want)
	}
	wants(t, "the state behind Look", state(t, d), was)
}

func holders(t *testing.T, d *txn.DB, want ...int) {
	t.Helper()
	was := state(t, d)
	l, err := vacuum.Holders(d)
	if err != api.OK || !slices.Equal(l, want) {
		t.Fatalf("Holders: %v, error %d, want %v", l, err, want)
	}
	wants(t, "the state behind Holders", state(t, d), was)
}

func old(t *testing.T, d *txn.DB, age uint64, want ...int) {
	t.Helper()
	was := state(t, d)
	l, err := vacuum.Old(d, age)
	if err != api.OK || !slices.Equal(l, want) {
		t.Fatalf("Old of %d: %v, error %d, want %v", age, l, err, want)
	}
	wants(t, "the state behind Old", state(t, d), was)
}

func runs(t *testing.T, d *txn.DB, want api.Pruned) {
	t.Helper()
	p, err := vacuum.Run(d)
	if err != api.OK || p != want {
		t.Fatalf("Run: %+v, error %d, want %+v", p, err, want)
	}
}

func clears(t *testing.T, d *txn.DB, age uint64, want api.Pruned, aborted ...int) {
	t.Helper()
	l, p, err := vacuum.Clear(d, age)
	if err != api.OK || p != want || !slices.Equal(l, aborted) {
		t.Fatalf("Clear of %d: %v, %+v, error %d, want %v, %+v", age, l, p, err, aborted, want)
	}
}

func due(t *testing.T, l []api.Waste, base, thousandths int, want ...int) {
	t.Helper()
	got, err := vacuum.Due(l, base, thousandths)
	if err != api.OK || !slices.Equal(got, want) {
		t.Fatalf("Due of %+v, %d, %d: %v, error %d, want %v", l, base, thousandths, got, err, want)
	}
}

// shownValue tells a float's bits, too.
func shownValue(v api.Value) string {
	switch v.Kind {
	case api.KindNull:
		return "null"
	case api.KindInt:
		return fmt.Sprint(v.N)
	case api.KindFloat:
		return fmt.Sprintf("%v/%x", v.F, math.Float64bits(v.F))
	}
	return fmt.Sprintf("%d/%d/%q", v.Kind, v.N, v.S)
}

func shownRow(l []api.Value) string {
	var texts []string
	for _, v := range l {
		texts = append(texts, shownValue(v))
	}
	return strings.Join(texts, " ")
}

func shownRows(l [][]api.Value) string {
	var texts []string
	for _, row := range l {
		texts = append(texts, shownRow(row))
	}
	return strings.Join(texts, ", ")
}

// state is all that a database tells without being changed.
func state(t *testing.T, d *txn.DB) string {
	t.Helper()
	var b strings.Builder
	fmt.Fprintf(&b, "floor %d, horizon %d\n%s", d.Floor(), d.Horizon(), told(t, d))
	for n, tab := range d.Tables() {
		fmt.Fprintf(&b, "%d: %v\n", n, heldOf(t, d, n))
		for index := -1; index < len(tab.Indexes); index++ {
			hits, _ := d.Entries(n, index, all())
			fmt.Fprintf(&b, "%d/%d: %v\n", n, index, hits)
		}
	}
	return b.String()
}

// told is what the active ones are told of a database, and of themselves, and what is there at the frontier.
func told(t *testing.T, d *txn.DB) string {
	t.Helper()
	var b strings.Builder
	fmt.Fprintf(&b, "frontier %d, active %v\n", d.Frontier(), d.Active())
	for _, x := range d.Active() {
		info, _ := d.Info(x)
		f, _ := d.Foot(x)
		fmt.Fprintf(&b, "%d: %+v, %q\n", x, info, fmt.Sprint(f))
	}
	for n := range d.Tables() {
		fmt.Fprintf(&b, "%d: %s\n", n, shownRows(rowsAt(t, d, n, d.Frontier())))
	}
	return b.String()
}

func heldOf(t *testing.T, d *txn.DB, table int) []api.Held {
	t.Helper()
	l, err := d.Latest(table, -1, all())
	wants(t, "Latest", err, api.OK)
	return l
}

func rowsAt(t *testing.T, d *txn.DB, table int, stamp uint64) [][]api.Value {
	t.Helper()
	l, err := d.At(table, stamp)
	wants(t, "At", err, api.OK)
	return l
}

// chance makes numbers that look like chance.
type chance struct{ r uint64 }

func (c *chance) below(n int) int {
	c.r = c.r*6364136223846793005 + 1442695040888963407
	return int(c.r >> 33 % uint64(n))
}

func one[T any](c *chance, l ...T) T { return l[c.below(len(l))] }
