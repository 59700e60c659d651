package index_test

import (
	"fmt"
	"math"
	"reflect"
	"slices"
	"strings"
	"testing"

	"vellum/api"
	"vellum/code"
	"vellum/index"
	"vellum/lit"
	"vellum/schema"
	"vellum/store"
)

// In1: New takes -1 and the numbers of the table's indexes, and has no entries.
func TestNew(t *testing.T) {
	for n := -1; n < 3; n++ {
		x := newIndex(t, wide(), n)
		finds(t, x, all(), false, many)
		wants(t, "Sweep", x.Sweep(nil), 0)
	}
	plainTable := table()
	plainTable.Indexes = nil
	newIndex(t, plainTable, -1)
	full := table()
	for i := range 15 {
		full.Indexes = append(full.Indexes, api.Index{Name: fmt.Sprintf("i%d", i), Columns: []int{1, 0}})
	}
	newIndex(t, full, 15)
	_, err := index.New(full, 16)
	wants(t, "New of the index behind the last", err, api.ErrNone)
}

// badTables is tables that layer 3 refuses, each for another reason.
func badTables() []api.Table {
	l := make([]api.Table, 7)
	for i := range l {
		l[i] = table()
	}
	l[0].Name = "int"
	l[1].Columns = make([]api.Column, 65)
	l[2].Columns[1].Name = "a"
	l[3].Columns[1].Default = lit.Text("x")
	l[4].Key = nil
	l[5].Indexes = append(l[5].Indexes, api.Index{Name: "i", Columns: []int{0}})
	l[6].Refs = []api.Ref{{Table: "t", Columns: []int{2}}}
	return l
}

// In1, In2, In4: what layer 3 refuses is told ahead of a number that no index has; all alike.
func TestTablesThatMayNotBe(t *testing.T) {
	s := filled(t, pair(1, 5))
	for i, tab := range append(badTables(), api.Table{}) {
		want := schema.Check(tab)
		if want == api.OK {
			t.Fatalf("table %d may be", i)
		}
		for _, n := range []int{-2, -1, 0, 1, 99} {
			refused(t, tab, n, s, want)
			refused(t, tab, n, nil, want)
		}
	}
	for _, n := range []int{-2, 1, 2, math.MaxInt, math.MinInt} {
		refused(t, table(), n, s, api.ErrNone)
	}
	noIndex := table()
	noIndex.Indexes = nil
	refused(t, noIndex, 0, s, api.ErrNone)
}

// refused makes an index in all ways: each is told the same error and nothing beside it.
func refused(t *testing.T, tab api.Table, n int, s *store.Store, want api.Errno) {
	t.Helper()
	x, err := index.New(tab, n)
	y, other := index.Build(tab, n, s)
	if x != nil || err != want || y != nil || other != want {
		t.Fatalf("New(%d): %v, %d; Build: %v, %d; want %d", n, x, err, y, other, want)
	}
	refusedLater(t, tab, n, s, want)
}

// In1: the entries stand by their keys, rising or falling, the first ones of them.
func TestFindInOrder(t *testing.T) {
	x := newIndex(t, table(), 0)
	for i, b := range []int64{7, -3, 7, 0, math.MinInt64, math.MaxInt64} {
		put(t, x, pair(int64(i), b), i)
	}
	finds(t, x, all(), false, many, 4, 1, 3, 0, 2, 5)
	finds(t, x, all(), true, many, 5, 2, 0, 3, 1, 4)
	finds(t, x, all(), false, math.MaxInt, 4, 1, 3, 0, 2, 5)
	finds(t, x, all(), false, 6, 4, 1, 3, 0, 2, 5)
	finds(t, x, all(), false, 2, 4, 1)
	finds(t, x, all(), true, 1, 5)
	for _, most := range []int{0, -1, math.MinInt} {
		finds(t, x, all(), false, most)
		finds(t, x, all(), true, most)
	}
}

// In1: a range has the keys from Lo on, Lo itself too, that are below Hi, or all, if it is open.
func TestFindInRanges(t *testing.T) {
	x := newIndex(t, table(), -1)
	var keys []string
	for i := range 6 {
		put(t, x, pair(int64(10*i), 1), i)
		keys = append(keys, keyOf(t, lit.Int(int64(10*i))))
	}
	finds(t, x, api.Range{Lo: keys[1], Hi: keys[4]}, false, many, 1, 2, 3)
	finds(t, x, api.Range{Lo: keys[1], Hi: keys[4]}, true, many, 3, 2, 1)
	finds(t, x, api.Range{Lo: keys[1], Hi: keys[4]}, true, 2, 3, 2)
	finds(t, x, api.Range{Lo: keys[3], Hi: keys[1], Open: true}, false, many, 3, 4, 5)
	finds(t, x, api.Range{Lo: keys[3] + "\x00", Open: true}, true, many, 5, 4)
	finds(t, x, api.Range{Hi: keys[2]}, false, many, 0, 1)
	finds(t, x, code.Point(keys[2]), false, many, 2)
	finds(t, x, code.Point(keys[2]+"\x00"), true, many)
	finds(t, x, api.Range{Lo: keys[4], Hi: keys[1]}, false, many)
	finds(t, x, api.Range{}, true, many)
	finds(t, x, api.Range{Lo: strings.Repeat("\xff", 5000), Open: true}, false, many)
	if got := x.Find(code.Point(keys[2]), false, 1); got[0].Key != keys[2] {
		t.Errorf("the entry's key is %x, want %x", got[0].Key, keys[2])
	}
}

// In1: a row's key in the index is layer 4's: of the index's columns and behind them the key's, of -1 the key's alone.
func TestKeysOfEachIndex(t *testing.T) {
	a, b, c, d := lit.Int(3), lit.Null(), lit.Float(math.Copysign(0, -1)), lit.Text("d")
	for n, want := range map[int][]api.Value{-1: {d, a}, 0: {b, d, a}, 1: {c, b, d, a}, 2: {a, d, a}} {
		x := newIndex(t, wide(), n)
		put(t, x, []api.Value{a, b, c, d}, 9)
		wants(t, fmt.Sprintf("Find in %d", n), shownHits(x.Find(all(), false, many)), shownHits([]api.Hit{{Key: keyOf(t, want...), Slot: 9}}))
	}
}

// In1: a key leads to one slot; to it again it may be put, to another one not, whatever else the row has.
func TestPutOfATakenKey(t *testing.T) {
	x := newIndex(t, table(), 0)
	put(t, x, pair(1, 5), 0)
	put(t, x, pair(1, 5), 0)
	wants(t, "Put into another slot", x.Put(pair(1, 5), 3), api.ErrTaken)
	finds(t, x, all(), false, many, 0)
	put(t, x, pair(1, 6), 3)
	put(t, x, pair(2, 5), 0)
	put(t, x, pair(2, 6), math.MaxInt)
	finds(t, x, all(), false, many, 0, 0, 3, math.MaxInt)
	wants(t, "Put into another slot", x.Put(pair(2, 6), 0), api.ErrTaken)
	key := newIndex(t, table(), -1)
	put(t, key, pair(1, 5), 1)
	put(t, key, pair(1, 6), 1)
	wants(t, "Put of another row with the key", key.Put(pair(1, 7), 2), api.ErrTaken)
	finds(t, key, all(), false, many, 1)
}

// In1: what layer 4 refuses of a row is told first, then a slot below 0, then a key that is taken; nothing is put.
func TestPutIsRefused(t *testing.T) {
	x := newIndex(t, wide(), 0)
	row := []api.Value{lit.Int(1), lit.Text("b"), lit.Null(), lit.Text("d")}
	with := func(i int, v api.Value) []api.Value {
		l := slices.Clone(row)
		l[i] = v
		return l
	}
	put(t, x, row, 5)
	for i, c := range []struct {
		row  []api.Value
		want api.Errno
	}{
		{nil, api.ErrArg},
		{row[:3], api.ErrArg},
		{append(slices.Clone(row), lit.Null()), api.ErrArg},
		{with(0, lit.Null()), api.ErrNull},
		{with(0, lit.Text("x")), api.ErrColumn},
		{with(1, lit.Text("\xff")), api.ErrValue},
		{with(2, api.Value{Kind: 77}), api.ErrValue},
		{with(3, text(1022)), api.ErrLong}, // the key has 1 + 1022 + 1 and 3 bytes
		{with(1, text(1017)), api.ErrLong}, // the index's key has 1 + 1017 + 1, 3 and 3 bytes
	} {
		for _, slot := range []int{-1, 0, 5, math.MinInt} {
			wants(t, fmt.Sprintf("Put of the row %d into %d", i, slot), x.Put(c.row, slot), c.want)
		}
	}
	for _, slot := range []int{-1, -2, math.MinInt} {
		wants(t, "Put of a taken key below 0", x.Put(row, slot), api.ErrArg)
		wants(t, "Put of a free key below 0", x.Put(with(0, lit.Int(2)), slot), api.ErrArg)
	}
	wants(t, "Put", x.Put(row, 6), api.ErrTaken)
	finds(t, x, all(), false, many, 5)
}

// In1: a key of MaxKey bytes is one; where the index's is too long the table's key may be one still.
func TestPutOfLongKeys(t *testing.T) {
	row := []api.Value{lit.Int(1), lit.Null(), lit.Null(), text(1019)} // the key: 1 + 1019 + 1 and 3 bytes: 1024
	x := newIndex(t, wide(), -1)
	put(t, x, row, 2)
	wants(t, "the key's bytes", len(x.Find(all(), false, 1)[0].Key), 1024)
	wants(t, "Put into an index", newIndex(t, wide(), 0).Put(row, 2), api.ErrLong)
	row[3] = text(1018)
	y := newIndex(t, wide(), 0)
	put(t, y, row, 0)
	wants(t, "the key's bytes in the index", len(y.Find(all(), true, 1)[0].Key), 1024)
	wants(t, "Put", newIndex(t, wide(), 1).Put(row, 2), api.ErrLong)
}

// In1: of as many rows as a table may have each has its entry.
func TestManyEntries(t *testing.T) {
	x := newIndex(t, table(), 0)
	for i := range api.MaxRows {
		put(t, x, pair(int64(i), int64(i*7919%api.MaxRows)), i)
	}
	l := x.Find(all(), true, math.MaxInt)
	wants(t, "how many", len(l), api.MaxRows)
	for i, h := range l {
		if h.Slot*7919%api.MaxRows != api.MaxRows-1-i {
			t.Fatalf("entry %d leads to %d", i, h.Slot)
		}
	}
}

// Of an Index that nobody made: ErrArg, nothing, 0.
func TestIndexesThatNobodyMade(t *testing.T) {
	s := filled(t, pair(1, 5))
	copied := &index.Index{}
	reflect.ValueOf(copied).Elem().Set(reflect.ValueOf(built(t, table(), 0, s)).Elem())
	for _, x := range []*index.Index{nil, {}, copied} {
		wants(t, "Put", x.Put(pair(1, 5), 0), api.ErrArg)
		wants(t, "Put of no row", x.Put(nil, -1), api.ErrArg)
		wants(t, "Find", len(x.Find(all(), false, 9)), 0)
		wants(t, "Look", len(x.Look(s, api.View{Stamp: 1}, all(), false, 9)), 0)
		wants(t, "Sweep", x.Sweep(s), 0)
		wants(t, "Sweep of nil", x.Sweep(nil), 0)
	}
}
