package txn_test

import (
	"fmt"
	"math"
	"slices"
	"strings"
	"testing"

	"vellum/api"
	"vellum/code"
	"vellum/lit"
	"vellum/pred"
	"vellum/txn"
)

const (
	committed = api.LevelCommitted
	snapshot  = api.LevelSnapshot
	serial    = api.LevelSerial
)

// many is more than there are.
const many = math.MaxInt

// pairs is a table with the int a, the key, the int b, which may be null, and the index 0 over b.
func pairs(name string) api.Table {
	return api.Table{
		Name:    name,
		Columns: []api.Column{{Name: "a", Kind: api.KindInt}, {Name: "b", Kind: api.KindInt, Null: true}},
		Key:     []int{0},
		Indexes: []api.Index{{Name: "i", Columns: []int{1}}},
	}
}

// wide has a key of two columns, in another order than they stand, and two indexes, one of which is over a column of the key.
func wide(name string) api.Table {
	return api.Table{
		Name: name,
		Columns: []api.Column{
			{Name: "a", Kind: api.KindFloat},
			{Name: "b", Kind: api.KindInt, Null: true},
			{Name: "c", Kind: api.KindText, Null: true, Default: lit.Text("x")},
			{Name: "d", Kind: api.KindText},
		},
		Key:     []int{3, 0},
		Indexes: []api.Index{{Name: "i", Columns: []int{1, 2}}, {Name: "j", Columns: []int{0}, Unique: true}},
		Refs:    []api.Ref{{Columns: []int{1}, Table: "t"}},
	}
}

func pair(a, b int64) []api.Value { return []api.Value{lit.Int(a), lit.Int(b)} }

func key(a int64) []api.Value { return []api.Value{lit.Int(a)} }

func all() api.Range { return api.Range{Open: true} }

// by is a scan of an index of all keys.
func by(index int) api.Scan { return api.Scan{Index: index, Range: all(), Most: many} }

func keyOf(l ...int64) string {
	var values []api.Value
	for _, n := range l {
		values = append(values, lit.Int(n))
	}
	k, _ := code.Encode(values)
	return k
}

// upTo is the keys from one int on, up to another one without it.
func upTo(lo, hi int64) api.Range { return api.Range{Lo: keyOf(lo), Hi: keyOf(hi)} }

// at is a point of table 0: of its key (-1), or of an index.
func at(index int, l ...int64) api.Point {
	return api.Point{Table: 0, Index: index, Key: keyOf(l...)}
}

func over(index int, r api.Range) api.Span { return api.Span{Table: 0, Index: index, Range: r} }

func where(t *testing.T, tab api.Table, text string) api.Expr {
	t.Helper()
	e, err := pred.Parse(tab, text)
	wants(t, "Parse of "+text, err, api.OK)
	return e
}

func wants[T comparable](t *testing.T, what string, got, want T) {
	t.Helper()
	if got != want {
		t.Fatalf("%s: %v, want %v", what, got, want)
	}
}

// made is a database of one table, t, without rows.
func made(t *testing.T) *txn.DB {
	t.Helper()
	return madeOf(t, pairs("t"))
}

func madeOf(t *testing.T, tables ...api.Table) *txn.DB {
	t.Helper()
	d, err := txn.New(tables)
	if d == nil || err != api.OK {
		t.Fatalf("New: %v, error %d", d, err)
	}
	return d
}

// filled is a database of one table with these rows at the stamp 1.
func filled(t *testing.T, rows ...[]api.Value) *txn.DB {
	t.Helper()
	d := made(t)
	x := begin(t, d, snapshot)
	for _, row := range rows {
		inserts(t, d, x, row)
	}
	commits(t, d, x, 1)
	return d
}

// two is a database with the rows 1, 0 and 2, 0 at the stamp 1.
func two(t *testing.T) *txn.DB {
	t.Helper()
	return filled(t, pair(1, 0), pair(2, 0))
}

func begin(t *testing.T, d *txn.DB, level int) int {
	t.Helper()
	x, err := d.Begin(level)
	wants(t, "Begin", err, api.OK)
	return x
}

func beginAt(t *testing.T, d *txn.DB, stamp uint64) int {
	t.Helper()
	x, err := d.BeginAt(stamp)
	wants(t, "BeginAt", err, api.OK)
	return x
}

// The following ones must not be refused; they work on table 0.

func inserts(t *testing.T, d *txn.DB, x int, row []api.Value) {
	t.Helper()
	wants(t, "Insert", d.Insert(x, 0, row), api.OK)
}

func updates(t *testing.T, d *txn.DB, x int, k int64, row []api.Value) {
	t.Helper()
	wants(t, "Update", d.Update(x, 0, key(k), row), api.OK)
}

func deletes(t *testing.T, d *txn.DB, x int, k int64) {
	t.Helper()
	wants(t, "Delete", d.Delete(x, 0, key(k)), api.OK)
}

func saves(t *testing.T, d *txn.DB, x, want int) {
	t.Helper()
	n, err := d.Save(x)
	if n != want || err != api.OK {
		t.Fatalf("Save: %d, error %d, want %d", n, err, want)
	}
}

func commits(t *testing.T, d *txn.DB, x int, want uint64) {
	t.Helper()
	stamp, err := d.Commit(x)
	if stamp != want || err != api.OK {
		t.Fatalf("Commit: %d, error %d, want %d", stamp, err, want)
	}
}

// refusedAt holds that a commit is refused.
func refusedAt(t *testing.T, d *txn.DB, x int, want api.Errno) {
	t.Helper()
	stamp, err := d.Commit(x)
	if stamp != 0 || err != want {
		t.Fatalf("Commit: %d, error %d, want 0, error %d", stamp, err, want)
	}
}

func aborts(t *testing.T, d *txn.DB, x int) {
	t.Helper()
	wants(t, "Abort", d.Abort(x), api.OK)
}

// done begins a transaction, lets it do something, and commits it.
func done(t *testing.T, d *txn.DB, do func(x int)) {
	t.Helper()
	x := begin(t, d, committed)
	do(x)
	_, err := d.Commit(x)
	wants(t, "Commit", err, api.OK)
}

// gets holds what a transaction sees of a key of table 0 against a row, or none.
func gets(t *testing.T, d *txn.DB, x int, k int64, want string) {
	t.Helper()
	row, there, err := d.Get(x, 0, key(k))
	if err != api.OK || there != (want != "") || shownRow(row) != want {
		t.Fatalf("Get of %d by %d: %s, %v, error %d, want %q", k, x, shownRow(row), there, err, want)
	}
}

// sees holds what a scan of table 0 tells against rows.
func sees(t *testing.T, d *txn.DB, x int, q api.Scan, want string) {
	t.Helper()
	l, err := d.Scan(x, 0, q)
	if err != api.OK || shownSeen(l) != want {
		t.Fatalf("Scan by %d: %s, error %d, want %q", x, shownSeen(l), err, want)
	}
}

// rowsAt holds the rows of table 0 at a stamp against what is wanted.
func rowsAt(t *testing.T, d *txn.DB, stamp uint64, want string) {
	t.Helper()
	l, err := d.At(0, stamp)
	if err != api.OK || shownRows(l) != want {
		t.Fatalf("At %d: %s, error %d, want %q", stamp, shownRows(l), err, want)
	}
}

func entries(t *testing.T, d *txn.DB, index int, want string) {
	t.Helper()
	l, err := d.Entries(0, index, all())
	if err != api.OK || shownHits(l) != want {
		t.Fatalf("Entries of %d: %s, error %d, want %q", index, shownHits(l), err, want)
	}
}

func footIs(t *testing.T, d *txn.DB, x int, want api.Foot) {
	t.Helper()
	f, err := d.Foot(x)
	if err != api.OK || shownFoot(f) != shownFoot(want) {
		t.Fatalf("Foot of %d: %s, error %d, want %s", x, shownFoot(f), err, shownFoot(want))
	}
}

func infoIs(t *testing.T, d *txn.DB, x int, want api.Info) {
	t.Helper()
	got, err := d.Info(x)
	if got != want || err != api.OK {
		t.Fatalf("Info of %d: %+v, error %d, want %+v", x, got, err, want)
	}
}

// shownValue tells a float's bits, too, where they are not plain.
func shownValue(v api.Value) string {
	switch v.Kind {
	case api.KindNull:
		return "null"
	case api.KindInt:
		return fmt.Sprint(v.N)
	case api.KindFloat:
		return fmt.Sprintf("%v/%x", v.F, math.Float64bits(v.F))
	}
	return fmt.Sprintf("%d/%d/%q", v.Kind, v.N, v.S)
}

func shownRow(l []api.Value) string {
	var texts []string
	for _, v := range l {
		texts = append(texts, shownValue(v))
	}
	return strings.Join(texts, " ")
}

func shownRows(l [][]api.Value) string {
	var texts []string
	for _, row := range l {
		texts = append(texts, shownRow(row))
	}
	return strings.Join(texts, ", ")
}

func rowsOf(l []api.Seen) [][]api.Value {
	var rows [][]api.Value
	for _, s := range l {
		rows = append(rows, s.Row)
	}
	return rows
}

func shownSeen(l []api.Seen) string { return shownRows(rowsOf(l)) }

// shownKey is the values of a key.
func shownKey(k string) string {
	l, err := code.Decode(k)
	if err != api.OK {
		return fmt.Sprintf("%q", k)
	}
	return shownRow(l)
}

// shownHits is the entries' keys, and the slots to which they lead.
func shownHits(l []api.Hit) string {
	var texts []string
	for _, h := range l {
		texts = append(texts, fmt.Sprintf("%s: %d", shownKey(h.Key), h.Slot))
	}
	return strings.Join(texts, ", ")
}

func shownPoints(l []api.Point) string {
	var texts []string
	for _, p := range l {
		texts = append(texts, fmt.Sprintf("%d/%d/%s", p.Table, p.Index, shownKey(p.Key)))
	}
	return strings.Join(texts, ", ")
}

func shownFoot(f api.Foot) string {
	var spans []string
	for _, s := range f.Spans {
		spans = append(spans, fmt.Sprintf("%d/%d/%q-%q/%v", s.Table, s.Index, s.Range.Lo, s.Range.Hi, s.Range.Open))
	}
	return fmt.Sprintf("points %s; spans %s; writes %s", shownPoints(f.Points), strings.Join(spans, ", "), shownPoints(f.Writes))
}

func shownWrite(gone bool, row []api.Value) string {
	if gone && len(row) == 0 {
		return "gone"
	}
	return shownRow(row)
}

// shownHeld is all of rows as they are there.
func shownHeld(l []api.Held) string {
	var texts []string
	for _, h := range l {
		text := fmt.Sprintf("slot %d:", h.Slot)
		for _, v := range h.Versions {
			text += fmt.Sprintf(" %s@%d", shownWrite(v.Gone, v.Row), v.Stamp)
		}
		if h.Intent.Txn != 0 || len(h.Intent.Writes) > 0 {
			text += fmt.Sprintf(" by %d:", h.Intent.Txn)
		}
		for _, w := range h.Intent.Writes {
			text += fmt.Sprintf(" %s on %d", shownWrite(w.Gone, w.Row), w.Level)
		}
		texts = append(texts, text)
	}
	return strings.Join(texts, "; ")
}

func size(f api.Foot) int { return len(f.Points) + len(f.Spans) + len(f.Writes) }

// state is all that a database tells without being changed.
func state(t *testing.T, d *txn.DB) string {
	t.Helper()
	var b strings.Builder
	fmt.Fprintf(&b, "frontier %d, floor %d, horizon %d, active %v\n", d.Frontier(), d.Floor(), d.Horizon(), d.Active())
	for _, x := range d.Active() {
		info, _ := d.Info(x)
		f, _ := d.Foot(x)
		fmt.Fprintf(&b, "%d: %+v, %s\n", x, info, shownFoot(f))
	}
	for n, tab := range d.Tables() {
		for index := -1; index < len(tab.Indexes); index++ {
			held, err := d.Latest(n, index, all())
			wants(t, "Latest", err, api.OK)
			hits, err := d.Entries(n, index, all())
			wants(t, "Entries", err, api.OK)
			fmt.Fprintf(&b, "%d/%d: %s | %s\n", n, index, shownHeld(held), shownHits(hits))
		}
		for stamp := d.Floor(); stamp <= d.Frontier(); stamp++ {
			rows, err := d.At(n, stamp)
			wants(t, "At", err, api.OK)
			fmt.Fprintf(&b, "%d at %d: %s\n", n, stamp, shownRows(rows))
		}
	}
	return b.String()
}

// chance makes numbers that look like chance.
type chance struct{ r uint64 }

func (c *chance) below(n int) int {
	c.r = c.r*6364136223846793005 + 1442695040888963407
	return int(c.r >> 33 % uint64(n))
}

func one[T any](c *chance, l ...T) T { return l[c.below(len(l))] }

func sorted(l []string) []string {
	s := slices.Clone(l)
	slices.Sort(s)
	return s
}
