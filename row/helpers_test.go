package row_test

import (
	"encoding/hex"
	"fmt"
	"math"
	"math/big"
	"math/rand/v2"
	"slices"
	"strings"
	"testing"

	"vellum/api"
	"vellum/lit"
	"vellum/row"
	"vellum/schema"
)

const (
	negativeZero = 1 << 63
	plainNaN     = 0x7FF8000000000000
	otherNaN     = 0xFFF0000000000001
)

func list(l ...api.Value) []api.Value { return l }

// simple is the table of the chapter's examples.
func simple() api.Table {
	t := tableOf("int", "text null", "bool", "float")
	t.Indexes = []api.Index{{Name: "i", Columns: []int{1}}}
	return t
}

// tableOf is a table with columns of these kinds; the first one is its key.
func tableOf(kinds ...string) api.Table {
	t := api.Table{Name: "t", Key: []int{0}}
	for i, s := range kinds {
		kind, null := strings.CutSuffix(s, " null")
		number := api.KindBool + slices.Index([]string{"bool", "int", "float", "text", "bytes"}, kind)
		t.Columns = append(t.Columns, api.Column{Name: fmt.Sprint("c", i), Kind: number, Null: null})
	}
	return t
}

// mixed is a table that has each kind twice, once where it may be null, and indexes.
func mixed() api.Table {
	t := tableOf("int", "int null", "float", "float null", "text", "text null", "bytes", "bytes null", "bool", "bool null")
	t.Key = []int{4, 0}
	t.Indexes = []api.Index{{Name: "i", Columns: []int{9, 3}, Unique: true}, {Name: "j", Columns: []int{0}}, {Name: "k", Columns: []int{7, 4, 1}}}
	return t
}

func mixedRow() []api.Value {
	return list(lit.Int(-300), lit.Null(), lit.Bits(otherNaN), lit.Float(0.5), lit.Text("\u00e9"), lit.Null(), lit.Bytes("\xff"), lit.Bytes(""), lit.Bool(true), lit.Bool(false))
}

// tables is tables of many shapes; their counts of columns lie at all places of the last byte of pairs.
func tables() []api.Table {
	l := []api.Table{simple(), mixed(), tableOf("int"), tableOf("bool"), tableOf("float"), tableOf("text"), tableOf("bytes"), tableOf("bool", "bool null"), tableOf("text", "int null", "bytes null")}
	kinds := []string{"bool", "int null", "float null", "text null", "bytes null", "bool null"}
	for _, count := range []int{5, 7, 8, 9, 63, api.MaxColumns} {
		var of []string
		for i := range count {
			of = append(of, kinds[i%len(kinds)])
		}
		l = append(l, tableOf(of...))
	}
	return l
}

// valuesOf is values of a kind.
func valuesOf(kind int) []api.Value {
	var l []api.Value
	switch kind {
	case api.KindBool:
		l = list(lit.Bool(false), lit.Bool(true))
	case api.KindInt:
		for _, n := range ints() {
			l = append(l, lit.Int(n))
		}
	case api.KindFloat:
		for _, f := range []float64{0, 1, -1.5, 1e300, -1e-300, math.Inf(1), math.Inf(-1), math.MaxFloat64, math.SmallestNonzeroFloat64} {
			l = append(l, lit.Float(f))
		}
		l = append(l, lit.Bits(negativeZero), lit.Bits(plainNaN), lit.Bits(otherNaN), lit.Bits(math.MaxUint64), lit.Bits(0x0102030405060708))
	case api.KindText:
		for _, s := range []string{"", "a", "ab", "\x00", "\u00e9", "\U0010FFFF", strings.Repeat("x", 127), strings.Repeat("x", 128), strings.Repeat("\u00e9", 150)} {
			l = append(l, lit.Text(s))
		}
	case api.KindBytes:
		for _, s := range []string{"", "\x00", "\xff", "a\x80", strings.Repeat("\xfe", 127), strings.Repeat("\xfe", 128)} {
			l = append(l, lit.Bytes(s))
		}
	}
	return l
}

// ints is ints at all sizes, about each at which a varint is longer by a byte.
func ints() []int64 {
	l := []int64{math.MinInt64, math.MinInt64 + 1, math.MaxInt64, math.MaxInt64 - 1}
	for shift := range 63 {
		for near := int64(-2); near <= 2; near++ {
			l = append(l, 1<<shift+near, -(1<<shift)+near)
		}
	}
	return l
}

// randomRow is a row of a table; half of what may be null is.
func randomRow(r *rand.Rand, t api.Table) []api.Value {
	var l []api.Value
	for _, c := range t.Columns {
		of := valuesOf(c.Kind)
		v := of[r.IntN(len(of))]
		if c.Null && r.IntN(2) == 0 {
			v = lit.Null()
		}
		l = append(l, v)
	}
	return l
}

// near is a row of a table that has some values of l.
func near(r *rand.Rand, t api.Table, l []api.Value) []api.Value {
	other := randomRow(r, t)
	keep := r.IntN(4)
	for i := range other {
		if r.IntN(3) < keep {
			other[i] = l[i]
		}
	}
	return other
}

// rowBytes works a row's bytes out by digits of base 2 and by big numbers.
func rowBytes(l []api.Value) string {
	pairs, rest := "", ""
	for _, v := range l {
		pair := "01"
		switch v.Kind {
		case api.KindNull:
			pair = "00"
		case api.KindBool:
			pair = []string{"01", "10"}[v.N]
		case api.KindInt:
			n := new(big.Int).Mul(big.NewInt(v.N), big.NewInt(2))
			if v.N < 0 {
				n.Sub(n.Neg(n), big.NewInt(1))
			}
			rest += varint(n)
		case api.KindFloat:
			b := fmt.Sprintf("%016x", math.Float64bits(v.F))
			for i := 14; i >= 0; i -= 2 {
				rest += unhex(b[i : i+2])
			}
		case api.KindText, api.KindBytes:
			rest += varint(big.NewInt(int64(len(v.S)))) + v.S
		}
		pairs = pair + pairs
	}
	for len(pairs)%8 != 0 {
		pairs = "0" + pairs
	}
	head := ""
	for end := len(pairs); end > 0; end -= 8 {
		head += binary(pairs[end-8 : end])
	}
	return head + rest
}

// varint works a varint out by digits of base 2.
func varint(n *big.Int) string {
	digits := n.Text(2)
	for len(digits)%7 != 0 {
		digits = "0" + digits
	}
	s := ""
	for end := len(digits); end > 0; end -= 7 {
		more := "1"
		if end == 7 {
			more = "0"
		}
		s += binary(more + digits[end-7:end])
	}
	return s
}

// changeBytes works a change's bytes out.
func changeBytes(from, to []api.Value) string {
	s := ""
	last := -1
	for i := range to {
		if !identical(from[i:i+1], to[i:i+1]) {
			s += varint(big.NewInt(int64(i-last-1))) + rowBytes(to[i:i+1])
			last = i
		}
	}
	return s
}

// binary is the byte that has these digits of base 2.
func binary(digits string) string {
	n, ok := new(big.Int).SetString(digits, 2)
	if !ok {
		panic(digits)
	}
	return string([]byte{byte(n.Int64())})
}

func unhex(s string) string {
	b, err := hex.DecodeString(strings.ReplaceAll(s, " ", ""))
	if err != nil {
		panic(err)
	}
	return string(b)
}

func identical(a, b []api.Value) bool {
	return slices.EqualFunc(a, b, func(v, w api.Value) bool {
		return v.Kind == w.Kind && v.N == w.N && math.Float64bits(v.F) == math.Float64bits(w.F) && v.S == w.S
	})
}

// wrongTables is tables that may not be, for each reason that schema.Check has.
func wrongTables() []api.Table {
	var l []api.Table
	for _, spoil := range []func(t *api.Table){
		func(t *api.Table) { *t = api.Table{} },
		func(t *api.Table) { t.Name = "int" },
		func(t *api.Table) { t.Columns = nil },
		func(t *api.Table) { t.Columns = make([]api.Column, api.MaxColumns+1) },
		func(t *api.Table) { t.Columns[1].Name = "c0" },
		func(t *api.Table) { t.Columns[1].Kind = api.KindNull },
		func(t *api.Table) { t.Columns[1].Kind = 6 },
		func(t *api.Table) { t.Columns[1].Default = lit.Bool(true) },
		func(t *api.Table) { t.Key = nil },
		func(t *api.Table) { t.Key = []int{-1} },
		func(t *api.Table) { t.Key = []int{99} },
		func(t *api.Table) { t.Key = []int{1} },
		func(t *api.Table) { t.Indexes[0].Columns = []int{99} },
		func(t *api.Table) { t.Indexes[0].Columns = []int{-1} },
		func(t *api.Table) { t.Refs = []api.Ref{{Table: "u"}} },
	} {
		t := simple()
		spoil(&t)
		l = append(l, t)
	}
	return l
}

// wrongRows is rows that are none of the simple table, for each reason that schema.Admits has.
func wrongRows() [][]api.Value {
	good := list(lit.Int(5), lit.Null(), lit.Bool(true), lit.Float(1))
	l := [][]api.Value{nil, {}, good[:3], append(slices.Clone(good), lit.Null())}
	for column, wrong := range [][]api.Value{
		{lit.Null(), lit.Float(5), lit.Text("5"), {Kind: -1}, {Kind: 6}, {Kind: api.KindInt, S: "a"}},
		{lit.Int(1), lit.Bytes("a"), lit.Text("\xff"), lit.Text(strings.Repeat("a", api.MaxRow+1)), {N: 1}},
		{lit.Null(), lit.Int(1), {Kind: api.KindBool, N: 2}, {Kind: api.KindBool, N: -1}},
		{lit.Null(), lit.Int(1), {Kind: api.KindFloat, N: 1}},
	} {
		for _, v := range wrong {
			bad := slices.Clone(good)
			bad[column] = v
			l = append(l, bad)
		}
	}
	return l
}

// longKey is the simple table with a key that is a text, and a row of it whose key is too long.
func longKey() (api.Table, []api.Value) {
	t := simple()
	t.Columns[0].Kind = api.KindText
	return t, list(lit.Text(strings.Repeat("a", api.MaxKey)), lit.Null(), lit.Bool(true), lit.Float(1))
}

// refusedByAll holds all that is given a row to one error, and to zero values beside it.
func refusedByAll(t *testing.T, table api.Table, l []api.Value, want api.Errno) {
	t.Helper()
	texts := map[string]func() (string, api.Errno){
		"Encode":        func() (string, api.Errno) { return row.Encode(table, l) },
		"Key":           func() (string, api.Errno) { return row.Key(table, l) },
		"Entry":         func() (string, api.Errno) { return row.Entry(table, 0, l) },
		"Entry of none": func() (string, api.Errno) { return row.Entry(table, -1, l) },
		"Change":        func() (string, api.Errno) { return row.Change(table, l, l) },
	}
	for name, call := range texts {
		if s, e := call(); e != want || s != "" {
			t.Errorf("%s of %s = %x, %d, want %d", name, shown(l), s, e, want)
		}
	}
	for _, change := range []string{"", "\x07", strings.Repeat("\x00", api.MaxRow+1)} {
		if got, e := row.Apply(table, l, change); e != want || got != nil {
			t.Errorf("Apply of %d bytes to %s = %s, %d, want %d", len(change), shown(l), shown(got), e, want)
		}
	}
}

// admitted holds a row that a test built to be one of its table.
func admitted(t *testing.T, table api.Table, l []api.Value) {
	t.Helper()
	if e := schema.Admits(table, l); e != api.OK {
		t.Fatalf("Admits of %s = %d", shown(l), e)
	}
}

// shown is a row with its texts cut short.
func shown(l []api.Value) string {
	var s []string
	for _, v := range l {
		s = append(s, fmt.Sprintf("{kind %d, %d, %x, %.20q of %d bytes}", v.Kind, v.N, math.Float64bits(v.F), v.S, len(v.S)))
	}
	return "[" + strings.Join(s, " ") + "]"
}

// seeded is a source that tells the same numbers each time.
func seeded(n uint64) *rand.Rand { return rand.New(rand.NewPCG(n, n)) }
