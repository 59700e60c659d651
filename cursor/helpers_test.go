package cursor_test

import (
	"fmt"
	"math"
	"slices"
	"strings"
	"testing"

	"vellum/api"
	"vellum/code"
	"vellum/cursor"
	"vellum/index"
	"vellum/lit"
	"vellum/pred"
	"vellum/store"
)

// many is more than there are.
const many = math.MaxInt

// table has the int a, the key, the int b, which may be null, and the index 0 over b.
func table() api.Table {
	return api.Table{
		Name:    "t",
		Columns: []api.Column{{Name: "a", Kind: api.KindInt, Default: lit.Int(7)}, {Name: "b", Kind: api.KindInt, Null: true}},
		Key:     []int{0},
		Indexes: []api.Index{{Name: "i", Columns: []int{1}}},
		Refs:    []api.Ref{{Columns: []int{1}, Table: "u"}},
	}
}

func pair(a, b int64) []api.Value { return []api.Value{lit.Int(a), lit.Int(b)} }

// ones is rows in which a is one of these, and b nothing.
func ones(l ...int64) [][]api.Value {
	var rows [][]api.Value
	for _, a := range l {
		rows = append(rows, []api.Value{lit.Int(a), lit.Null()})
	}
	return rows
}

func all() api.Range { return api.Range{Open: true} }

func keyOf(l ...int64) string {
	var values []api.Value
	for _, n := range l {
		values = append(values, lit.Int(n))
	}
	key, _ := code.Encode(values)
	return key
}

// from is the keys from one int on, up to another one without it.
func from(lo, hi int64) api.Range { return api.Range{Lo: keyOf(lo), Hi: keyOf(hi)} }

func where(t *testing.T, tab api.Table, text string) api.Expr {
	t.Helper()
	e, err := pred.Parse(tab, text)
	wants(t, "Parse of "+text, err, api.OK)
	return e
}

func wants[T comparable](t *testing.T, what string, got, want T) {
	t.Helper()
	if got != want {
		t.Fatalf("%s: %v, want %v", what, got, want)
	}
}

// filled is a store with these rows, in the slots from 0 on, settled at 1.
func filled(t *testing.T, rows ...[]api.Value) *store.Store {
	t.Helper()
	s, err := store.New(len(rows) + 3)
	wants(t, "New of a store", err, api.OK)
	for _, row := range rows {
		_, err = s.Add(1, api.Write{Row: row})
		wants(t, "Add", err, api.OK)
	}
	_, err = s.Settle(1, 1)
	wants(t, "Settle", err, api.OK)
	return s
}

func built(t *testing.T, tab api.Table, n int, s *store.Store) *index.Index {
	t.Helper()
	x, err := index.Build(tab, n, s)
	wants(t, "Build", err, api.OK)
	return x
}

// made is a store with these rows, and the index of their key.
func made(t *testing.T, rows ...[]api.Value) (*store.Store, *index.Index) {
	t.Helper()
	s := filled(t, rows...)
	return s, built(t, table(), -1, s)
}

func opened(t *testing.T, tab api.Table, s *store.Store, x *index.Index, v api.View, q api.Scan) *cursor.Cursor {
	t.Helper()
	c, err := cursor.Open(tab, s, x, v, q)
	if c == nil || err != api.OK {
		t.Fatalf("Open: %v, %d", c, err)
	}
	return c
}

// as is what the first column of rows says, row by row.
func as(l []api.Seen) []int64 {
	var told []int64
	for _, r := range l {
		told = append(told, r.Row[0].N)
	}
	return told
}

// tells holds what All tells against the rows, by their first column, and the range that are wanted.
func tells(t *testing.T, s *store.Store, x *index.Index, v api.View, q api.Scan, through api.Range, want ...int64) {
	t.Helper()
	l, r, err := cursor.All(table(), s, x, v, q)
	if err != api.OK || !slices.Equal(as(l), want) || r != through {
		t.Fatalf("All of %+v: %v, %v, %d, want %v, %v", q, as(l), r, err, want, through)
	}
}

// steps holds the next row, by its first column, and the range behind it, against what is wanted.
func steps(t *testing.T, c *cursor.Cursor, want int64, through api.Range) {
	t.Helper()
	r, there, err := c.Next()
	if !there || err != api.OK || r.Row[0].N != want {
		t.Fatalf("Next: %v, %v, %d, want %d", r, there, err, want)
	}
	wants(t, "Through", c.Through(), through)
}

// ends holds that there is no row any more, that it stays so, and the range.
func ends(t *testing.T, c *cursor.Cursor, want api.Errno, through api.Range) {
	t.Helper()
	for range 3 {
		r, there, err := c.Next()
		if there || err != want || shown(r) != shown(api.Seen{}) {
			t.Fatalf("Next: %v, %v, %d, want none and %d", r, there, err, want)
		}
		wants(t, "Through", c.Through(), through)
		want = api.OK
	}
}

// shown is all of some rows, a float's bits too, as a text.
func shown(l ...api.Seen) string {
	var b strings.Builder
	for _, r := range l {
		fmt.Fprintf(&b, "%d by %x:", r.Slot, r.Key)
		for _, v := range r.Row {
			fmt.Fprintf(&b, " %d/%d/%x/%q", v.Kind, v.N, math.Float64bits(v.F), v.S)
		}
		b.WriteString("; ")
	}
	return b.String()
}

// chance makes numbers that look like chance.
type chance struct{ r uint64 }

func (c *chance) below(n int) int {
	c.r = c.r*6364136223846793005 + 1442695040888963407
	return int(c.r >> 33 % uint64(n))
}
