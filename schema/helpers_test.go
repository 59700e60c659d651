package schema_test

import (
	"fmt"
	"math"
	"math/rand/v2"
	"slices"
	"strings"

	"vellum/api"
	"vellum/lit"
)

// keptWords is the words that are no names, as the chapter lists them.
const keptWords = "and bool bytes create default false float foreign in index int is key not null or primary references table text true unique " +
	"abort as asc at avg begin between by commit count delete desc drop from group insert into limit max min of order release rollback savepoint select set sum to update values where with"

var kept = strings.Fields(keptWords)

const (
	negativeZero = 1 << 63
	plainNaN     = 0x7FF8000000000000
	otherNaN     = 0xFFF0000000000001
)

// simple is the table of the chapter's examples.
func simple() api.Table {
	return api.Table{
		Name:    "t",
		Columns: []api.Column{{Name: "a", Kind: api.KindInt}, {Name: "b", Kind: api.KindText, Null: true, Default: lit.Text("x")}},
		Key:     []int{0},
	}
}

const simpleText = "create table t (\n  a int not null,\n  b text default 'x',\n  primary key (a)\n)\n"

// full is a table that has all that a table can have.
func full() api.Table {
	return api.Table{
		Name: "orders_1",
		Columns: []api.Column{
			{Name: "id", Kind: api.KindInt},
			{Name: "paid", Kind: api.KindBool, Default: lit.Bool(false)},
			{Name: "total", Kind: api.KindFloat, Null: true, Default: lit.Float(-1.5)},
			{Name: "note", Kind: api.KindText, Null: true},
			{Name: "raw", Kind: api.KindBytes, Null: true, Default: lit.Bytes("\x00\xff")},
			{Name: "_5", Kind: api.KindInt, Default: lit.Int(-7)},
		},
		Key:     []int{5, 0},
		Indexes: []api.Index{{Name: "id", Columns: []int{3}}, {Name: "two", Columns: []int{4, 0}, Unique: true}},
		Refs:    []api.Ref{{Columns: []int{2, 3}, Table: "u"}, {Columns: []int{0}, Table: "orders_1"}},
	}
}

// copyOf is a table that shares no list with t.
func copyOf(t api.Table) api.Table {
	t.Columns = slices.Clone(t.Columns)
	t.Key = slices.Clone(t.Key)
	t.Indexes = slices.Clone(t.Indexes)
	for i := range t.Indexes {
		t.Indexes[i].Columns = slices.Clone(t.Indexes[i].Columns)
	}
	t.Refs = slices.Clone(t.Refs)
	for i := range t.Refs {
		t.Refs[i].Columns = slices.Clone(t.Refs[i].Columns)
	}
	return t
}

func sameValue(a, b api.Value) bool {
	return a.Kind == b.Kind && a.N == b.N && math.Float64bits(a.F) == math.Float64bits(b.F) && a.S == b.S
}

func sameRow(a, b []api.Value) bool {
	return slices.EqualFunc(a, b, sameValue)
}

// sameTable is bit by bit; a list of none is one, be it nil or not.
func sameTable(a, b api.Table) bool {
	sameColumn := func(a, b api.Column) bool {
		return a.Name == b.Name && a.Kind == b.Kind && a.Null == b.Null && sameValue(a.Default, b.Default)
	}
	sameIndex := func(a, b api.Index) bool {
		return a.Name == b.Name && a.Unique == b.Unique && slices.Equal(a.Columns, b.Columns)
	}
	sameRef := func(a, b api.Ref) bool { return a.Table == b.Table && slices.Equal(a.Columns, b.Columns) }
	return a.Name == b.Name && slices.EqualFunc(a.Columns, b.Columns, sameColumn) && slices.Equal(a.Key, b.Key) &&
		slices.EqualFunc(a.Indexes, b.Indexes, sameIndex) && slices.EqualFunc(a.Refs, b.Refs, sameRef)
}

// values is values of each kind that may be a default.
func values(kind int) []api.Value {
	l := []api.Value{lit.Null()}
	switch kind {
	case api.KindBool:
		l = append(l, lit.Bool(false), lit.Bool(true))
	case api.KindInt:
		l = append(l, lit.Int(0), lit.Int(1), lit.Int(-1), lit.Int(math.MinInt64), lit.Int(math.MaxInt64))
	case api.KindFloat:
		for _, f := range []float64{0, 1, -0.1, 1e300, -1e-300, math.Inf(1), math.Inf(-1), math.MaxFloat64, math.SmallestNonzeroFloat64} {
			l = append(l, lit.Float(f))
		}
		l = append(l, lit.Bits(negativeZero), lit.Bits(plainNaN), lit.Bits(otherNaN))
	case api.KindText:
		for _, s := range []string{"", "x", "'", "''", "it's", "a, b) default 'c'", "\n\t\x00", "é\U0010FFFF", "null", "x'00'", strings.Repeat("'", 300)} {
			l = append(l, lit.Text(s))
		}
	case api.KindBytes:
		for _, s := range []string{"", "\x00", "\xff'", "x'00'", strings.Repeat("\xfe", 300)} {
			l = append(l, lit.Bytes(s))
		}
	}
	return l
}

// randomName is a name that may be; names from a short list come often.
func randomName(r *rand.Rand) string {
	for {
		size := 1 + r.IntN(3)
		if r.IntN(20) == 0 {
			size = api.MaxName
		}
		s := string("abcdefghijklmnopqrstuvwxyz_"[r.IntN(27)])
		for len(s) < size {
			s += string("abcdefghijklmnopqrstuvwxyz_0123456789"[r.IntN(37)])
		}
		if !slices.Contains(kept, s) {
			return s
		}
	}
}

func randomNames(r *rand.Rand, count int) []string {
	var names []string
	for len(names) < count {
		if s := randomName(r); !slices.Contains(names, s) {
			names = append(names, s)
		}
	}
	return names
}

// randomColumns is some of the numbers below count, in some order.
func randomColumns(r *rand.Rand, count int) []int {
	return r.Perm(count)[:1+r.IntN(count)]
}

// randomTable is a table that may be.
func randomTable(r *rand.Rand) api.Table {
	count := 1 + r.IntN(5)
	if r.IntN(50) == 0 {
		count = api.MaxColumns
	}
	t := api.Table{Name: randomName(r), Key: randomColumns(r, count)}
	for i, name := range randomNames(r, count) {
		c := api.Column{Name: name, Kind: api.KindBool + r.IntN(5), Null: r.IntN(2) == 0 && !slices.Contains(t.Key, i)}
		of := values(c.Kind)
		c.Default = of[r.IntN(len(of))]
		t.Columns = append(t.Columns, c)
	}
	for _, name := range randomNames(r, max(0, r.IntN(api.MaxIndexes+4)-3)) {
		t.Indexes = append(t.Indexes, api.Index{Name: name, Columns: randomColumns(r, count), Unique: r.IntN(2) == 0})
	}
	for range max(0, r.IntN(api.MaxRefs+4)-3) {
		t.Refs = append(t.Refs, api.Ref{Columns: randomColumns(r, count), Table: randomName(r)})
	}
	return t
}

// shown is a row with its texts cut short.
func shown(row []api.Value) string {
	var s []string
	for _, v := range row {
		s = append(s, fmt.Sprintf("{kind %d, %d, %x, %.20q of %d bytes}", v.Kind, v.N, math.Float64bits(v.F), v.S, len(v.S)))
	}
	return "[" + strings.Join(s, " ") + "]"
}

// seeded is a source that tells the same numbers each time.
func seeded(n uint64) *rand.Rand { return rand.New(rand.NewPCG(n, n)) }
