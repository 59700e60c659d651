package row_test

import (
	"fmt"
	"math"
	"slices"
	"strings"
	"testing"

	"vellum/api"
	"vellum/code"
	"vellum/lit"
	"vellum/row"
)

// Ro2: the keys of rows, and of their entries, by their bytes.
func TestKeys(t *testing.T) {
	two := list(lit.Int(-1), lit.Text("ab"), lit.Bool(false), lit.Bits(negativeZero))
	none := list(lit.Int(256), lit.Null(), lit.Bool(false), lit.Float(1))
	for _, c := range []struct {
		table      api.Table
		l          []api.Value
		key, entry string
	}{
		{simple(), two, "037fff", "05616200 037fff"},
		{simple(), none, "03820100", "01 03820100"},
		{mixed(), mixedRow(), "05c3a900 037efed4", "0200 04bfe0000000000000 05c3a900 037efed4"},
	} {
		if key, e := row.Key(c.table, c.l); key != unhex(c.key) || e != api.OK {
			t.Errorf("Key(%s) = %x, %d, want %s", shown(c.l), key, e, c.key)
		}
		if key, e := row.Entry(c.table, 0, c.l); key != unhex(c.entry) || e != api.OK {
			t.Errorf("Entry(%s) = %x, %d, want %s", shown(c.l), key, e, c.entry)
		}
	}
}

// Ro2: keys are those of the values at the columns, in their order; the key's stand behind the index's, be they among these or not.
func TestKeysAreLayerTwos(t *testing.T) {
	r := seeded(3)
	for range 500 {
		table := mixed()
		table.Key = evens(r.Perm(5)[:1+r.IntN(5)])
		table.Indexes = nil
		for i := range 1 + r.IntN(api.MaxIndexes) {
			columns := r.Perm(len(table.Columns))[:1+r.IntN(len(table.Columns))]
			table.Indexes = append(table.Indexes, api.Index{Name: fmt.Sprint("i", i), Columns: columns})
		}
		l := randomRow(r, table)
		admitted(t, table, l)
		keyIs(t, "Key", l, table.Key, func() (string, api.Errno) { return row.Key(table, l) })
		for i, index := range table.Indexes {
			keyIs(t, "Entry", l, slices.Concat(index.Columns, table.Key), func() (string, api.Errno) { return row.Entry(table, i, l) })
		}
	}
}

// evens is the columns of mixed that may not be null.
func evens(l []int) []int {
	for i := range l {
		l[i] *= 2
	}
	return l
}

// keyIs holds what a call tells against the key of the values at some columns.
func keyIs(t *testing.T, name string, l []api.Value, columns []int, call func() (string, api.Errno)) {
	t.Helper()
	var picked []api.Value
	for _, column := range columns {
		picked = append(picked, l[column])
	}
	want, err := code.Encode(picked)
	if key, e := call(); key != want || e != err {
		t.Fatalf("%s(%s) by the columns %v = %x, %d, want %x, %d", name, shown(l), columns, key, e, want, err)
	}
}

// Ro2: a key of MaxKey bytes may be, a longer one not; an entry's may be too long where the row's is not.
func TestKeysLong(t *testing.T) {
	table := tableOf("text", "text null")
	table.Indexes = []api.Index{{Name: "i", Columns: []int{1}}}
	fits := strings.Repeat("a", api.MaxKey-2) // a tag, and the 0 at the end
	for _, c := range []struct {
		key         string
		other       api.Value
		keyErr, err api.Errno
	}{
		{fits, lit.Null(), api.OK, api.ErrLong},
		{fits[1:], lit.Null(), api.OK, api.OK},
		{fits[2:], lit.Text(""), api.OK, api.OK},
		{fits[1:], lit.Text(""), api.OK, api.ErrLong},
		{"", lit.Text(fits[2:]), api.OK, api.OK},
		{"", lit.Text(fits[1:]), api.OK, api.ErrLong},
		{"", lit.Text(strings.Repeat("a", api.MaxRow)), api.OK, api.ErrLong},
		{fits + "a", lit.Null(), api.ErrLong, api.ErrLong},
		{strings.Repeat("\x00", api.MaxKey/2), lit.Null(), api.ErrLong, api.ErrLong},
		{strings.Repeat("a", api.MaxRow), lit.Null(), api.ErrLong, api.ErrLong},
	} {
		l := list(lit.Text(c.key), c.other)
		if key, e := row.Key(table, l); e != c.keyErr || (key == "") != (e != api.OK) {
			t.Errorf("Key(%s) = %d bytes, %d, want %d", shown(l), len(key), e, c.keyErr)
		}
		if key, e := row.Entry(table, 0, l); e != c.err || (key == "") != (e != api.OK) {
			t.Errorf("Entry(%s) = %d bytes, %d, want %d", shown(l), len(key), e, c.err)
		}
	}
}

// Ro2, R2: an index that is not there is ErrNone, behind what Key refuses.
func TestEntryOfNoIndex(t *testing.T) {
	l := list(lit.Int(5), lit.Null(), lit.Bool(true), lit.Float(1))
	for _, index := range []int{-1, 1, 2, api.MaxIndexes, math.MinInt, math.MaxInt} {
		if key, e := row.Entry(simple(), index, l); e != api.ErrNone || key != "" {
			t.Errorf("Entry of index %d = %x, %d, want ErrNone", index, key, e)
		}
		table, long := longKey()
		if key, e := row.Entry(table, index, long); e != api.ErrLong || key != "" {
			t.Errorf("Entry of index %d and a key that is too long = %x, %d, want ErrLong", index, key, e)
		}
	}
	if key, e := row.Entry(tableOf("int"), 0, list(lit.Int(1))); e != api.ErrNone || key != "" {
		t.Errorf("Entry of a table without indexes = %x, %d, want ErrNone", key, e)
	}
}

// Ro1, Ro3: a row whose key is too long has bytes and changes all the same.
func TestKeysDoNotBindBytes(t *testing.T) {
	table, l := longKey()
	s, e := row.Encode(table, l)
	if e != api.OK {
		t.Fatalf("Encode = %d", e)
	}
	if back, e := row.Decode(table, s); e != api.OK || !identical(back, l) {
		t.Errorf("Decode = %s, %d", shown(back), e)
	}
	if s, e := row.Change(table, l, l); e != api.OK || s != "" {
		t.Errorf("Change to itself = %x, %d", s, e)
	}
}
