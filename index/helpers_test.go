package index_test

import (
	"fmt"
	"slices"
	"strings"
	"testing"

	"vellum/api"
	"vellum/code"
	"vellum/index"
	"vellum/lit"
	"vellum/store"
)

// table is the one of the chapter's examples: the int a, the key, the int b, and the index 0 over b.
func table() api.Table {
	return api.Table{
		Name:    "t",
		Columns: []api.Column{{Name: "a", Kind: api.KindInt}, {Name: "b", Kind: api.KindInt}},
		Key:     []int{0},
		Indexes: []api.Index{{Name: "i", Columns: []int{1}}},
	}
}

// wide has a key of two columns, in another order than they stand, and three indexes, one of them over a column of the key.
func wide() api.Table {
	return api.Table{
		Name: "w",
		Columns: []api.Column{
			{Name: "a", Kind: api.KindInt, Default: lit.Int(7)},
			{Name: "b", Kind: api.KindText, Null: true, Default: lit.Text("x")},
			{Name: "c", Kind: api.KindFloat, Null: true},
			{Name: "d", Kind: api.KindText},
		},
		Key:     []int{3, 0},
		Indexes: []api.Index{{Name: "i", Columns: []int{1}, Unique: true}, {Name: "j", Columns: []int{2, 1}}, {Name: "k", Columns: []int{0}}},
		Refs:    []api.Ref{{Columns: []int{1}, Table: "v"}},
	}
}

func pair(a, b int64) []api.Value { return []api.Value{lit.Int(a), lit.Int(b)} }

// text of so many bytes.
func text(size int) api.Value { return lit.Text(strings.Repeat("x", size)) }

func keyOf(t *testing.T, l ...api.Value) string {
	t.Helper()
	key, err := code.Encode(l)
	if err != api.OK {
		t.Fatalf("Encode(%v): %d", l, err)
	}
	return key
}

func all() api.Range { return api.Range{Open: true} }

// many is more than there are.
const many = 1 << 40

func wants[T comparable](t *testing.T, what string, got, want T) {
	t.Helper()
	if got != want {
		t.Fatalf("%s: %v, want %v", what, got, want)
	}
}

func newIndex(t *testing.T, tab api.Table, n int) *index.Index {
	t.Helper()
	x, err := index.New(tab, n)
	if err != api.OK || x == nil {
		t.Fatalf("New(%d): %v, %d", n, x, err)
	}
	return x
}

func built(t *testing.T, tab api.Table, n int, s *store.Store) *index.Index {
	t.Helper()
	x, err := index.Build(tab, n, s)
	if err != api.OK || x == nil {
		t.Fatalf("Build(%d): %v, %d", n, x, err)
	}
	return x
}

func put(t *testing.T, x *index.Index, row []api.Value, slot int) {
	t.Helper()
	wants(t, fmt.Sprintf("Put(%v, %d)", row, slot), x.Put(row, slot), api.OK)
}

func newStore(t *testing.T, most int) *store.Store {
	t.Helper()
	s, err := store.New(most)
	wants(t, "New of a store", err, api.OK)
	return s
}

func added(t *testing.T, s *store.Store, txn int, row []api.Value) int {
	t.Helper()
	slot, err := s.Add(txn, api.Write{Row: row})
	wants(t, "Add", err, api.OK)
	return slot
}

func written(t *testing.T, s *store.Store, slot, txn int, w api.Write, snapshot uint64) {
	t.Helper()
	wants(t, "Write", s.Write(slot, txn, w, snapshot), api.OK)
}

func settled(t *testing.T, s *store.Store, txn int, stamp uint64) {
	t.Helper()
	_, err := s.Settle(txn, stamp)
	wants(t, "Settle", err, api.OK)
}

// filled is a store with these rows, in the slots from 0 on, settled at 1.
func filled(t *testing.T, rows ...[]api.Value) *store.Store {
	t.Helper()
	s := newStore(t, len(rows)+1)
	for _, row := range rows {
		added(t, s, 1, row)
	}
	settled(t, s, 1, 1)
	return s
}

func shownHits(l []api.Hit) string {
	var b strings.Builder
	for _, h := range l {
		fmt.Fprintf(&b, "%x to %d, ", h.Key, h.Slot)
	}
	return b.String()
}

func shownSeen(l []api.Seen) string {
	var b strings.Builder
	for _, x := range l {
		fmt.Fprintf(&b, "%x to %d: %v, ", x.Key, x.Slot, x.Row)
	}
	return b.String()
}

func slotsOf(l []api.Hit) []int {
	var slots []int
	for _, h := range l {
		slots = append(slots, h.Slot)
	}
	return slots
}

// finds holds the slots to which the entries of a range lead against those that are wanted.
func finds(t *testing.T, x *index.Index, r api.Range, back bool, most int, want ...int) {
	t.Helper()
	if got := slotsOf(x.Find(r, back, most)); !slices.Equal(got, want) {
		t.Fatalf("Find(%v, %v, %d) leads to %v, want %v", r, back, most, got, want)
	}
}

// sees holds the rows (of two ints) that a view sees through all entries against those that are wanted.
func sees(t *testing.T, x *index.Index, s *store.Store, v api.View, want string) {
	t.Helper()
	wants(t, fmt.Sprintf("Look by %v", v), pairs(x.Look(s, v, all(), false, many)), want)
}

// pairs is rows of two ints as a text.
func pairs(l []api.Seen) string {
	var parts []string
	for _, x := range l {
		parts = append(parts, fmt.Sprintf("%d: %d %d", x.Slot, x.Row[0].N, x.Row[1].N))
	}
	return strings.Join(parts, ", ")
}
