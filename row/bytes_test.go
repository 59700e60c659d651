package row_test

import (
	"encoding/hex"
	"math"
	"math/big"
	"slices"
	"strings"
	"testing"

	"vellum/api"
	"vellum/lit"
	"vellum/row"
	"vellum/schema"
	"vellum/value"
)

// Ro1: the bytes of rows, kind by kind, and back; the chapter's examples are among them.
func TestEncode(t *testing.T) {
	bools := tableOf("bool", "bool null", "bool null", "bool null", "bool null")
	for _, c := range []struct {
		table api.Table
		l     []api.Value
		want  string
	}{
		{simple(), list(lit.Int(5), lit.Null(), lit.Bool(true), lit.Float(1)), "61 0a 000000000000f03f"},
		{simple(), list(lit.Int(-1), lit.Text("ab"), lit.Bool(false), lit.Bits(negativeZero)), "55 01 026162 0000000000000080"},
		{tableOf("int"), list(lit.Int(0)), "01 00"},
		{tableOf("int"), list(lit.Int(1)), "01 02"},
		{tableOf("int"), list(lit.Int(-1)), "01 01"},
		{tableOf("int"), list(lit.Int(63)), "01 7e"},
		{tableOf("int"), list(lit.Int(-64)), "01 7f"},
		{tableOf("int"), list(lit.Int(64)), "01 8001"},
		{tableOf("int"), list(lit.Int(-65)), "01 8101"},
		{tableOf("int"), list(lit.Int(8191)), "01 fe7f"},
		{tableOf("int"), list(lit.Int(8192)), "01 808001"},
		{tableOf("int"), list(lit.Int(math.MaxInt64)), "01 feffffffffffffffff01"},
		{tableOf("int"), list(lit.Int(math.MinInt64)), "01 ffffffffffffffffff01"},
		{tableOf("bool"), list(lit.Bool(false)), "01"},
		{tableOf("bool"), list(lit.Bool(true)), "02"},
		{bools, list(lit.Bool(true), lit.Bool(false), lit.Null(), lit.Bool(true), lit.Bool(false)), "86 01"},
		{bools, list(lit.Bool(false), lit.Null(), lit.Null(), lit.Null(), lit.Null()), "01 00"},
		{tableOf("float"), list(lit.Bits(otherNaN)), "01 010000000000f0ff"},
		{tableOf("float"), list(lit.Bits(0x0102030405060708)), "01 0807060504030201"},
		{tableOf("text"), list(lit.Text("")), "01 00"},
		{tableOf("text"), list(lit.Text("\u00e9")), "01 02c3a9"},
		{tableOf("bytes"), list(lit.Bytes("\xff\x00")), "01 02ff00"},
		{tableOf("int", "bytes null", "text null"), list(lit.Int(2), lit.Bytes("b"), lit.Text("t")), "15 04 0162 0174"},
		{mixed(), mixedRow(), "51 51 06 d704 010000000000f0ff 000000000000e03f 02c3a9 01ff 00"},
	} {
		s, e := row.Encode(c.table, c.l)
		if s != unhex(c.want) || e != api.OK {
			t.Errorf("Encode(%s) = %x, %d, want %s", shown(c.l), s, e, c.want)
		}
		l, e := row.Decode(c.table, unhex(c.want))
		if !identical(l, c.l) || e != api.OK {
			t.Errorf("Decode(%s) = %s, %d, want %s", c.want, shown(l), e, shown(c.l))
		}
	}
}

// Ro1, Ro4: an int's varint has as few bytes as hold it, at all sizes, and is read back.
func TestEncodeInts(t *testing.T) {
	table := tableOf("int")
	for _, n := range ints() {
		l := list(lit.Int(n))
		s, e := row.Encode(table, l)
		if s != rowBytes(l) || e != api.OK {
			t.Errorf("Encode of %d = %x, %d, want %x", n, s, e, rowBytes(l))
		}
		if back, e := row.Decode(table, s); e != api.OK || !identical(back, l) {
			t.Errorf("Decode(%x) = %s, %d, want %d", s, shown(back), e, n)
		}
	}
}

// Ro1, Ro4, P1: rows of tables of all shapes have the bytes that the chapter names, and come back bit by bit.
func TestRowsThereAndBack(t *testing.T) {
	r := seeded(1)
	for _, table := range tables() {
		for range 300 {
			l := randomRow(r, table)
			admitted(t, table, l)
			s, e := row.Encode(table, l)
			if e != api.OK || s != rowBytes(l) {
				t.Fatalf("Encode(%s) = %x, %d, want %x", shown(l), s, e, rowBytes(l))
			}
			back, e := row.Decode(table, s)
			if e != api.OK || !identical(back, l) || !row.Same(back, l) {
				t.Fatalf("Decode(%x) = %s, %d, want %s", s, shown(back), e, shown(l))
			}
		}
	}
}

// Ro1: a row of MaxRow bytes may be, a longer one not.
func TestEncodeLong(t *testing.T) {
	text := tableOf("text")
	fits := strings.Repeat("a", api.MaxRow-4) // a byte of pairs, three of the length
	s, e := row.Encode(text, list(lit.Text(fits)))
	if e != api.OK || len(s) != api.MaxRow {
		t.Fatalf("Encode = %d bytes, %d, want MaxRow", len(s), e)
	}
	if l, e := row.Decode(text, s); e != api.OK || !identical(l, list(lit.Text(fits))) {
		t.Errorf("Decode of MaxRow bytes = %d values, %d", len(l), e)
	}
	pair := tableOf("int", "text null", "bytes null")
	for _, l := range [][]api.Value{
		list(lit.Int(64), lit.Null(), lit.Bytes(fits)),
		list(lit.Int(0), lit.Text(fits), lit.Null()),
		list(lit.Int(0), lit.Text(fits[:api.MaxRow/2]), lit.Bytes(fits[:api.MaxRow/2])),
		list(lit.Int(0), lit.Text(fits+"aaaa"), lit.Bytes(fits+"aaaa")),
	} {
		if s, e := row.Encode(pair, l); e != api.ErrLong || s != "" {
			t.Errorf("Encode(%s) = %d bytes, %d, want ErrLong", shown(l), len(s), e)
		}
	}
	if s, e := row.Encode(text, list(lit.Text(fits+"a"))); e != api.ErrLong || s != "" {
		t.Errorf("Encode of MaxRow + 1 bytes = %d bytes, %d, want ErrLong", len(s), e)
	}
}

// Ro1 to Ro3, R2: what Admits refuses goes ahead of all else.
func TestAdmitsGoesAhead(t *testing.T) {
	good := list(lit.Int(5), lit.Null(), lit.Bool(true), lit.Float(1))
	for _, l := range wrongRows() {
		refusedByAll(t, simple(), l, schema.Admits(simple(), l))
	}
	for _, table := range wrongTables() {
		for _, l := range [][]api.Value{nil, good, {{Kind: 9}}} {
			refusedByAll(t, table, l, schema.Check(table))
		}
	}
	for _, e := range []api.Errno{api.ErrArg, api.ErrValue, api.ErrLong, api.ErrNull, api.ErrColumn} {
		if !slices.ContainsFunc(wrongRows(), func(l []api.Value) bool { return schema.Admits(simple(), l) == e }) {
			t.Errorf("no row is refused by %d", e)
		}
	}
}

// Ro1: Decode is told the table's fault first, then the length, then the bytes.
func TestDecodeTellsTheFirst(t *testing.T) {
	long := strings.Repeat("\x00", api.MaxRow+1)
	for _, table := range wrongTables() {
		for _, s := range []string{"", long, unhex("61 0a 000000000000f03f")} {
			if l, e := row.Decode(table, s); e != schema.Check(table) || l != nil {
				t.Errorf("Decode of %d bytes = %s, %d, want %d", len(s), shown(l), e, schema.Check(table))
			}
		}
	}
	bytes := tableOf("bytes")
	for _, s := range []string{long, strings.Repeat("\xff", api.MaxRow+1), rowBytes(list(lit.Bytes(long[:api.MaxRow-3])))} {
		if l, e := row.Decode(bytes, s); e != api.ErrLong || l != nil {
			t.Errorf("Decode of %d bytes = %d values, %d, want ErrLong", len(s), len(l), e)
		}
	}
	for _, s := range []string{long[:api.MaxRow], strings.Repeat("\xff", api.MaxRow)} {
		if l, e := row.Decode(bytes, s); e != api.ErrBytes || l != nil {
			t.Errorf("Decode of MaxRow bytes of no row = %d values, %d, want ErrBytes", len(l), e)
		}
	}
}

// Ro1: bytes that are those of no row.
func TestDecodeWrong(t *testing.T) {
	one, text, blob, real, truth := tableOf("int"), tableOf("text"), tableOf("bytes"), tableOf("float"), tableOf("bool")
	for _, c := range []struct {
		table api.Table
		bytes string
	}{
		// The pairs: too few, of no meaning, spare ones.
		{simple(), ""}, {tableOf("bool", "bool", "bool", "bool", "bool"), "55"},
		{simple(), "62 0a 000000000000f03f"}, {simple(), "63 0a 000000000000f03f"}, {simple(), "60 000000000000f03f"},
		{simple(), "69 0a 0161 000000000000f03f"}, {simple(), "6d 0a 0161 000000000000f03f"}, {simple(), "71 0a 000000000000f03f"}, {simple(), "41 0a 000000000000f03f"},
		{simple(), "21 0a"}, {simple(), "a1 0a 000000000000f03f"}, {simple(), "e1 0a 000000000000f03f"},
		{truth, "00"}, {truth, "03"}, {truth, "05"}, {truth, "09"}, {truth, "41"}, {truth, "81"}, {truth, "11"}, {truth, "21"},
		{text, "02 00"}, {blob, "02 00"}, {real, "02 0000000000000000"}, {text, "03 00"}, {one, "00"}, {one, "00 00"},
		// A varint: cut, too long, beyond 64 bits.
		{one, "01"}, {one, "01 80"}, {one, "01 ffffffffffffffffff"}, {one, "01 8000"}, {one, "01 8a00"}, {one, "01 808000"}, {one, "01 ffffffffffffffffff00"},
		{one, "01 ffffffffffffffffff02"}, {one, "01 ffffffffffffffffff03"}, {one, "01 80808080808080808002"}, {one, "01 80808080808080808003"}, {one, "01 80808080808080808041"}, {one, "01 ffffffffffffffffff7f"},
		{one, "01 8080808080808080808001"}, {one, "01 ffffffffffffffffffff01"}, {one, "01 8080808080808080808000"},
		// A float, a text and bytes that are cut; a text that is none.
		{real, "01"}, {real, "01 00000000000000"}, {text, "01"}, {text, "01 01"}, {text, "01 0261"}, {blob, "01 03 0000"}, {blob, "01 ffffffffffffffffff01"}, {blob, "01 ffffffffffffffff7f"}, {blob, "01 8080808008"},
		{text, "01 01ff"}, {text, "01 01c3"}, {text, "01 03eda080"}, {text, "01 02c080"}, {text, "01 8100 61"}, {blob, "01 8000"},
		// What stands behind the row.
		{truth, "01 00"}, {one, "01 00 00"}, {text, "01 01 61 61"}, {text, "01 00 00"}, {real, "01 0000000000000000 00"}, {simple(), "61 0a 000000000000f03f 00"},
		{simple(), "61 8a00 000000000000f03f"},
	} {
		if l, e := row.Decode(c.table, unhex(c.bytes)); e != api.ErrBytes || l != nil {
			t.Errorf("Decode(%s) = %s, %d, want ErrBytes", c.bytes, shown(l), e)
		}
	}
}

// Ro1: a null is read just where a column may be null.
func TestDecodeNulls(t *testing.T) {
	for _, kind := range []string{"bool", "int", "float", "text", "bytes"} {
		if l, e := row.Decode(tableOf("bool", kind), "\x01"); e != api.ErrBytes || l != nil {
			t.Errorf("Decode of null for a %s = %s, %d, want ErrBytes", kind, shown(l), e)
		}
		if l, e := row.Decode(tableOf("bool", kind+" null"), "\x01"); e != api.OK || !identical(l, list(lit.Bool(false), lit.Null())) {
			t.Errorf("Decode of null for a %s that may be null = %s, %d", kind, shown(l), e)
		}
	}
}

// Ro1, Ro4: of bytes of up to three just those are read that are a row's.
func TestDecodeShort(t *testing.T) {
	for _, kinds := range [][]string{
		{"int"}, {"text"}, {"bytes"}, {"bool"}, {"float"}, {"bool", "bool null"}, {"int", "bool null"}, {"bool", "int null"}, {"bool", "text null", "bytes null"}, {"int", "int"}, {"bool", "bool", "bool null", "bool null", "bool"},
	} {
		table := tableOf(kinds...)
		have := map[string][]api.Value{}
		for _, l := range shortRows(table) {
			s := rowBytes(l)
			have[s] = l
			if back, e := row.Decode(table, s); e != api.OK || !identical(back, l) {
				t.Fatalf("Decode(%x) by %v = %s, %d, want %s", s, kinds, shown(back), e, shown(l))
			}
		}
		for s := range shortTexts {
			want, ok := have[s]
			l, e := row.Decode(table, s)
			if ok != (e == api.OK) || !ok && (e != api.ErrBytes || l != nil) || !identical(l, want) {
				t.Fatalf("Decode(%x) by %v = %s, %d, want %s", s, kinds, shown(l), e, shown(want))
			}
		}
	}
}

// shortTexts goes over all bytes of up to two, and all of three whose last one is one of some.
func shortTexts(yield func(string) bool) {
	last := "\x00\x01\x02\x03\x04\x0b\x3f\x40\x61\x7f\x80\x81\xc3\xff"
	b := make([]byte, 3)
	for n := range 1 << 16 {
		b[0], b[1] = byte(n>>8), byte(n)
		for i := range last {
			b[2] = last[i]
			if !yield(string(b)) {
				return
			}
		}
		if !yield(string(b[:2])) || b[1] == 0 && !yield(string(b[:1])) {
			return
		}
	}
	yield("")
}

// shortRows is all rows of a table whose bytes are three at most.
func shortRows(table api.Table) [][]api.Value {
	pairs := (len(table.Columns) + 3) / 4
	rows := [][]api.Value{nil}
	for _, c := range table.Columns {
		of := [][]api.Value{shortValues(c, 0), shortValues(c, 1), shortValues(c, 2)}
		var longer [][]api.Value
		for _, l := range rows {
			used := len(rowBytes(l)) - (len(l)+3)/4
			for _, v := range of[3-pairs-used] {
				longer = append(longer, append(slices.Clone(l), v))
			}
		}
		rows = longer
	}
	return rows
}

// shortValues is all values of a column that take so many bytes behind the pairs at most, of two.
func shortValues(c api.Column, most int) []api.Value {
	var l []api.Value
	if c.Null {
		l = append(l, lit.Null())
	}
	switch c.Kind {
	case api.KindBool:
		l = append(l, lit.Bool(false), lit.Bool(true))
	case api.KindInt:
		for n := int64(-8192); n < 8192; n++ {
			l = append(l, lit.Int(n))
		}
	case api.KindText, api.KindBytes:
		l = append(l, api.Value{Kind: c.Kind})
		for n := range 256 {
			l = append(l, api.Value{Kind: c.Kind, S: string([]byte{byte(n)})})
		}
	}
	return slices.DeleteFunc(l, func(v api.Value) bool {
		return value.Check(v) != api.OK || len(rowBytes(list(v))) > 1+most
	})
}

// Ro1, Ro4: what is read of broken bytes is a row that has just these bytes, and bytes that are cut or go on are none.
func TestDecodeBroken(t *testing.T) {
	r := seeded(2)
	for _, table := range tables() {
		for range 200 {
			s := rowBytes(randomRow(r, table))
			for range 10 {
				decodesOrNot(t, table, broken(r, s))
			}
			if l, e := row.Decode(table, s[:r.IntN(len(s))]); e != api.ErrBytes || l != nil {
				t.Fatalf("Decode of a piece of %x = %s, %d, want ErrBytes", s, shown(l), e)
			}
			if l, e := row.Decode(table, s+string([]byte{byte(r.IntN(256))})); e != api.ErrBytes || l != nil {
				t.Fatalf("Decode of %x and a byte = %s, %d, want ErrBytes", s, shown(l), e)
			}
		}
	}
}

// broken is bytes of which some are others, or are gone, or are new.
func broken(r interface{ IntN(int) int }, s string) string {
	b := []byte(s)
	for range 1 + r.IntN(2) {
		at := r.IntN(len(b) + 1)
		switch kind := r.IntN(4); {
		case kind == 0 || at == len(b):
			b = slices.Insert(b, at, byte(r.IntN(256)))
		case kind == 1:
			b = slices.Delete(b, at, at+1)
		case kind == 2:
			b[at] ^= 1 << r.IntN(8)
		default:
			b[at] = byte(r.IntN(256))
		}
	}
	return string(b)
}

func decodesOrNot(t *testing.T, table api.Table, s string) {
	t.Helper()
	l, e := row.Decode(table, s)
	switch {
	case e == api.ErrBytes && l == nil:
	case e == api.OK && schema.Admits(table, l) == api.OK && rowBytes(l) == s:
	default:
		t.Fatalf("Decode(%x) = %s, %d", s, shown(l), e)
	}
}

// Ro3: rows are the same if they have as many values and each two are the same, bit by bit.
func TestSame(t *testing.T) {
	some := list(lit.Null(), lit.Bool(true), lit.Int(1), lit.Float(1), lit.Text("1"), lit.Bytes("1"), lit.Float(0), lit.Bits(negativeZero), lit.Bits(plainNaN), lit.Bits(otherNaN),
		api.Value{Kind: 9}, api.Value{Kind: 9, N: 1}, api.Value{Kind: api.KindInt, N: 1, S: "x"}, api.Value{F: math.Copysign(0, -1)})
	for i, v := range some {
		for j, w := range some {
			if row.Same(list(lit.Int(7), v), list(lit.Int(7), w)) != (i == j) || row.Same(list(v, lit.Int(7)), list(w, lit.Int(7))) != (i == j) {
				t.Errorf("Same of %s and %s, want %v", shown(list(v)), shown(list(w)), i == j)
			}
		}
		if row.Same(list(v), nil) || row.Same(nil, list(v)) || row.Same(list(v, v), list(v)) || row.Same(list(v), list(v, v)) {
			t.Errorf("Same of rows of %s that are not as long", shown(list(v)))
		}
	}
	if !row.Same(nil, nil) || !row.Same(nil, []api.Value{}) || !row.Same([]api.Value{}, nil) {
		t.Errorf("Same of two rows without values, want true")
	}
}

// varint's own check: the digits of base 2 give what Example 2 and the chapter's words name.
func TestVarintByDigits(t *testing.T) {
	for n, want := range map[int64]string{0: "00", 1: "01", 127: "7f", 128: "8001", 300: "ac02", 16384: "808001", math.MaxInt64: "ffffffffffffffff7f"} {
		if got := hex.EncodeToString([]byte(varint(big.NewInt(n)))); got != want {
			t.Errorf("the varint of %d = %s, want %s", n, got, want)
		}
	}
}
