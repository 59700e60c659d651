package guard_test

import (
	"fmt"
	"math"
	"slices"
	"strings"
	"testing"

	"vellum/api"
	"vellum/code"
	"vellum/guard"
	"vellum/lit"
	"vellum/schema"
	"vellum/txn"
)

const (
	committed = api.LevelCommitted
	snapshot  = api.LevelSnapshot
	serial    = api.LevelSerial
)

// levels is all of them.
func levels() []int { return []int{committed, snapshot, serial} }

// many is more than there are.
const many = math.MaxInt

func wants[T comparable](t *testing.T, what string, got, want T) {
	t.Helper()
	if got != want {
		t.Fatalf("%s: %v, want %v", what, got, want)
	}
}

// tables are those of texts.
func tables(t *testing.T, texts ...string) []api.Table {
	t.Helper()
	var l []api.Table
	for _, text := range texts {
		tab, err := schema.Parse(text)
		wants(t, "Parse of "+text, err, api.OK)
		l = append(l, tab)
	}
	return l
}

// The tables of the chapter's examples.
const (
	textT = "create table t (a int not null, b int, primary key (a), unique index i (b))"
	textU = "create table u (c int not null, d int, primary key (c), foreign key (d) references t)"
)

// made is a guarded database without rows.
func made(t *testing.T, texts ...string) *guard.Guard {
	t.Helper()
	g, err := guard.New(tables(t, texts...))
	if g == nil || err != api.OK {
		t.Fatalf("New: %v, error %d", g, err)
	}
	return g
}

func examples(t *testing.T) *guard.Guard {
	t.Helper()
	return made(t, textT, textU)
}

// valueOf is the value of what Go has for it: an int, a float, a text, a value, or nil.
func valueOf(v any) api.Value {
	switch v := v.(type) {
	case int:
		return lit.Int(int64(v))
	case float64:
		return lit.Float(v)
	case string:
		return lit.Text(v)
	case api.Value:
		return v
	}
	return lit.Null()
}

// row is values.
func row(l ...any) []api.Value {
	var values []api.Value
	for _, v := range l {
		values = append(values, valueOf(v))
	}
	return values
}

func keyOf(l ...any) string {
	k, _ := code.Encode(row(l...))
	return k
}

func all() api.Range { return api.Range{Open: true} }

// begins is the keys that begin with some values.
func begins(l ...any) api.Range {
	r, _ := code.Begins(row(l...))
	return r
}

func point(table, index int, l ...any) api.Point {
	return api.Point{Table: table, Index: index, Key: keyOf(l...)}
}

func span(table, index int, r api.Range) api.Span {
	return api.Span{Table: table, Index: index, Range: r}
}

func begin(t *testing.T, g *guard.Guard, level int) int {
	t.Helper()
	x, err := g.DB().Begin(level)
	wants(t, "Begin", err, api.OK)
	return x
}

func commits(t *testing.T, g *guard.Guard, x int) uint64 {
	t.Helper()
	stamp, err := g.DB().Commit(x)
	wants(t, "Commit", err, api.OK)
	return stamp
}

func aborts(t *testing.T, g *guard.Guard, x int) {
	t.Helper()
	wants(t, "Abort", g.DB().Abort(x), api.OK)
}

func saves(t *testing.T, g *guard.Guard, x int) int {
	t.Helper()
	n, err := g.DB().Save(x)
	wants(t, "Save", err, api.OK)
	return n
}

// told is what a write is told: what is broken, and the error.
type told struct {
	b   api.Broken
	err api.Errno
}

// ok is that nothing stands in its way.
var ok = told{}

// only is that an error is told, and nothing broken.
func only(err api.Errno) told { return told{err: err} }

// unique, out and in are what is broken in a table.
func unique(err api.Errno, table, n int) told {
	return told{api.Broken{Table: table, Kind: api.BrokenUnique, N: n}, err}
}

func out(err api.Errno, table, n int) told {
	return told{api.Broken{Table: table, Kind: api.BrokenOut, N: n}, err}
}

func in(err api.Errno, table, n int) told {
	return told{api.Broken{Table: table, Kind: api.BrokenIn, N: n}, err}
}

func insert(t *testing.T, g *guard.Guard, x, table int, l []api.Value, want told) {
	t.Helper()
	b, err := g.Insert(x, table, l)
	wants(t, "Insert of "+shownRow(l), told{b, err}, want)
}

func update(t *testing.T, g *guard.Guard, x, table int, k, l []api.Value, want told) {
	t.Helper()
	b, err := g.Update(x, table, k, l)
	wants(t, "Update of "+shownRow(k)+" to "+shownRow(l), told{b, err}, want)
}

func remove(t *testing.T, g *guard.Guard, x, table int, k []api.Value, want told) {
	t.Helper()
	b, err := g.Delete(x, table, k)
	wants(t, "Delete of "+shownRow(k), told{b, err}, want)
}

// done begins a transaction, lets it do something, and commits it.
func done(t *testing.T, g *guard.Guard, do func(x int)) uint64 {
	t.Helper()
	x := begin(t, g, committed)
	do(x)
	return commits(t, g, x)
}

// filled commits rows of a table.
func filled(t *testing.T, g *guard.Guard, table int, rows ...[]api.Value) uint64 {
	t.Helper()
	return done(t, g, func(x int) {
		for _, l := range rows {
			insert(t, g, x, table, l, ok)
		}
	})
}

func footIs(t *testing.T, g *guard.Guard, x int, want api.Foot) {
	t.Helper()
	f, err := g.DB().Foot(x)
	if err != api.OK || shownFoot(f) != shownFoot(want) {
		t.Fatalf("Foot of %d: %s, error %d, want %s", x, shownFoot(f), err, shownFoot(want))
	}
}

func brokenIs(t *testing.T, g *guard.Guard, table int, stamp uint64, want ...api.Broken) {
	t.Helper()
	l, err := g.Broken(table, stamp)
	if err != api.OK || !slices.Equal(l, want) {
		t.Fatalf("Broken of %d at %d: %v, error %d, want %v", table, stamp, l, err, want)
	}
}

// nothingBroken is Gu4: at no stamp.
func nothingBroken(t *testing.T, g *guard.Guard) {
	t.Helper()
	for stamp := g.DB().Floor(); stamp <= g.DB().Frontier(); stamp++ {
		for n := range g.DB().Tables() {
			brokenIs(t, g, n, stamp)
		}
	}
}

// shownValue tells a float's bits, too.
func shownValue(v api.Value) string {
	switch v.Kind {
	case api.KindNull:
		return "null"
	case api.KindInt:
		return fmt.Sprint(v.N)
	case api.KindFloat:
		return fmt.Sprintf("%v/%x", v.F, math.Float64bits(v.F))
	}
	return fmt.Sprintf("%d/%d/%q", v.Kind, v.N, v.S)
}

func shownRow(l []api.Value) string {
	var texts []string
	for _, v := range l {
		texts = append(texts, shownValue(v))
	}
	return strings.Join(texts, " ")
}

func shownRows(l [][]api.Value) string {
	var texts []string
	for _, row := range l {
		texts = append(texts, shownRow(row))
	}
	return strings.Join(texts, ", ")
}

// shownKey is the values of a key.
func shownKey(k string) string {
	l, err := code.Decode(k)
	if err != api.OK {
		return fmt.Sprintf("%q", k)
	}
	return shownRow(l)
}

func shownPoints(l []api.Point) string {
	var texts []string
	for _, p := range l {
		texts = append(texts, fmt.Sprintf("%d/%d/%s", p.Table, p.Index, shownKey(p.Key)))
	}
	return strings.Join(texts, ", ")
}

func shownFoot(f api.Foot) string {
	var spans []string
	for _, s := range f.Spans {
		spans = append(spans, fmt.Sprintf("%d/%d/%q-%q/%v", s.Table, s.Index, s.Range.Lo, s.Range.Hi, s.Range.Open))
	}
	return fmt.Sprintf("points %s; spans %s; writes %s", shownPoints(f.Points), strings.Join(spans, ", "), shownPoints(f.Writes))
}

// state is all that a database tells without being changed.
func state(t *testing.T, d *txn.DB) string {
	t.Helper()
	var b strings.Builder
	fmt.Fprintf(&b, "frontier %d, floor %d, horizon %d, active %v\n", d.Frontier(), d.Floor(), d.Horizon(), d.Active())
	for _, x := range d.Active() {
		info, _ := d.Info(x)
		f, _ := d.Foot(x)
		fmt.Fprintf(&b, "%d: %+v, %s\n", x, info, shownFoot(f))
	}
	for n, tab := range d.Tables() {
		held, _ := d.Latest(n, -1, all())
		fmt.Fprintf(&b, "%d: %v\n", n, held)
		for index := -1; index < len(tab.Indexes); index++ {
			hits, _ := d.Entries(n, index, all())
			fmt.Fprintf(&b, "%d/%d: %v\n", n, index, hits)
		}
		fmt.Fprintf(&b, "%s\n", shownRows(rowsAt(t, d, n, d.Frontier())))
	}
	return b.String()
}

func rowsAt(t *testing.T, d *txn.DB, table int, stamp uint64) [][]api.Value {
	t.Helper()
	l, err := d.At(table, stamp)
	wants(t, "At", err, api.OK)
	return l
}

// chance makes numbers that look like chance.
type chance struct{ r uint64 }

func (c *chance) below(n int) int {
	c.r = c.r*6364136223846793005 + 1442695040888963407
	return int(c.r >> 33 % uint64(n))
}

func one[T any](c *chance, l ...T) T { return l[c.below(len(l))] }
