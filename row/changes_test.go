package row_test

import (
	"slices"
	"strings"
	"testing"

	"vellum/api"
	"vellum/lit"
	"vellum/row"
	"vellum/schema"
)

// Ro3: the bytes of changes; the chapter's example is among them.
func TestChange(t *testing.T) {
	one := list(lit.Int(5), lit.Null(), lit.Bool(true), lit.Float(1))
	wide := tableOf(slices.Repeat([]string{"bool"}, api.MaxColumns)...)
	off := slices.Repeat(list(lit.Bool(false)), api.MaxColumns)
	last := slices.Clone(off)
	last[api.MaxColumns-1] = lit.Bool(true)
	for _, c := range []struct {
		table    api.Table
		from, to []api.Value
		want     string
	}{
		{simple(), one, list(lit.Int(5), lit.Text("a"), lit.Bool(true), lit.Float(2)), "01 01 0161 01 01 0000000000000040"},
		{simple(), one, one, ""},
		{simple(), one, list(lit.Int(6), lit.Null(), lit.Bool(true), lit.Float(1)), "00 01 0c"},
		{simple(), one, list(lit.Int(5), lit.Null(), lit.Bool(false), lit.Float(1)), "02 01"},
		{simple(), list(lit.Int(5), lit.Text("a"), lit.Bool(false), lit.Float(1)), one, "01 00 00 02"},
		{simple(), list(lit.Int(5), lit.Null(), lit.Bool(true), lit.Float(0)), list(lit.Int(5), lit.Null(), lit.Bool(true), lit.Bits(negativeZero)), "03 01 0000000000000080"},
		{simple(), list(lit.Int(5), lit.Null(), lit.Bool(true), lit.Bits(plainNaN)), list(lit.Int(5), lit.Null(), lit.Bool(true), lit.Bits(otherNaN)), "03 01 010000000000f0ff"},
		{simple(), one, list(lit.Int(-1), lit.Text(""), lit.Bool(false), lit.Float(-1)), "00 01 01 00 01 00 00 01 00 01 000000000000f0bf"},
		{wide, off, last, "3f 02"},
		{wide, last, off, "3f 01"},
	} {
		s, e := row.Change(c.table, c.from, c.to)
		if s != unhex(c.want) || e != api.OK {
			t.Errorf("Change(%s, %s) = %x, %d, want %s", shown(c.from), shown(c.to), s, e, c.want)
		}
		l, e := row.Apply(c.table, c.from, unhex(c.want))
		if !identical(l, c.to) || e != api.OK {
			t.Errorf("Apply(%s, %s) = %s, %d, want %s", shown(c.from), c.want, shown(l), e, shown(c.to))
		}
	}
}

// Ro3, Ro4, P1: changes have the bytes that the chapter names, and lead to the other row, bit by bit.
func TestChangesThereAndBack(t *testing.T) {
	r := seeded(4)
	for _, table := range tables() {
		for range 300 {
			from := randomRow(r, table)
			to := near(r, table, from)
			admitted(t, table, to)
			s, e := row.Change(table, from, to)
			if e != api.OK || s != changeBytes(from, to) || (s == "") != identical(from, to) {
				t.Fatalf("Change(%s, %s) = %x, %d, want %x", shown(from), shown(to), s, e, changeBytes(from, to))
			}
			l, e := row.Apply(table, from, s)
			if e != api.OK || !identical(l, to) {
				t.Fatalf("Apply(%s, %x) = %s, %d, want %s", shown(from), s, shown(l), e, shown(to))
			}
			if s, e := row.Change(table, from, from); e != api.OK || s != "" {
				t.Fatalf("Change of %s to itself = %x, %d", shown(from), s, e)
			}
			if l, e := row.Apply(table, from, ""); e != api.OK || !identical(l, from) {
				t.Fatalf("Apply of nothing to %s = %s, %d", shown(from), shown(l), e)
			}
		}
	}
}

// Ro3, R2: what Admits refuses of the first row goes ahead of what it refuses of the second one, and this ahead of the length.
func TestChangeTellsTheFirst(t *testing.T) {
	good := list(lit.Int(5), lit.Null(), lit.Bool(true), lit.Float(1))
	long := list(lit.Int(5), lit.Text(strings.Repeat("a", api.MaxRow)), lit.Bool(true), lit.Float(1))
	for _, bad := range wrongRows() {
		want := schema.Admits(simple(), bad)
		for _, other := range append(wrongRows(), good, long) {
			if s, e := row.Change(simple(), bad, other); e != want || s != "" {
				t.Errorf("Change(%s, %s) = %x, %d, want %d", shown(bad), shown(other), s, e, want)
			}
		}
		for _, other := range [][]api.Value{good, long} {
			if s, e := row.Change(simple(), other, bad); e != want || s != "" {
				t.Errorf("Change(%s, %s) = %x, %d, want %d", shown(other), shown(bad), s, e, want)
			}
		}
	}
}

// Ro3: a change of MaxRow bytes may be, a longer one not; how long the rows are does not matter.
func TestChangeLong(t *testing.T) {
	table := tableOf("int", "text null", "bytes null")
	fits := strings.Repeat("a", api.MaxRow-5) // the columns between, the pair, three of the length
	from := list(lit.Int(1), lit.Null(), lit.Null())
	to := list(lit.Int(1), lit.Text(fits), lit.Null())
	s, e := row.Change(table, from, to)
	if e != api.OK || len(s) != api.MaxRow {
		t.Fatalf("Change = %d bytes, %d, want MaxRow", len(s), e)
	}
	if l, e := row.Apply(table, from, s); e != api.OK || !identical(l, to) {
		t.Errorf("Apply of MaxRow bytes = %s, %d", shown(l), e)
	}
	for _, to := range [][]api.Value{
		list(lit.Int(1), lit.Text(fits+"a"), lit.Null()),
		list(lit.Int(2), lit.Text(fits), lit.Null()),
		list(lit.Int(1), lit.Text(fits[:api.MaxRow/2]), lit.Bytes(fits[:api.MaxRow/2])),
	} {
		if s, e := row.Change(table, from, to); e != api.ErrLong || s != "" {
			t.Errorf("Change to %s = %d bytes, %d, want ErrLong", shown(to), len(s), e)
		}
	}
	longFrom := list(lit.Int(1), lit.Text(fits), lit.Bytes(fits))
	longTo := list(lit.Int(2), lit.Text(fits), lit.Bytes(fits))
	s, e = row.Change(table, longFrom, longTo)
	if e != api.OK || s != unhex("00 01 04") {
		t.Errorf("Change of rows that are too long for bytes = %x, %d", s, e)
	}
	if l, e := row.Apply(table, longFrom, s); e != api.OK || !identical(l, longTo) {
		t.Errorf("Apply to a row that is too long for bytes = %s, %d", shown(l), e)
	}
}

// Ro3, R2: a change of more than MaxRow bytes is refused for that, whatever it has.
func TestApplyLong(t *testing.T) {
	table := tableOf("int", "bytes null")
	from := list(lit.Int(1), lit.Null())
	whole := changeBytes(from, list(lit.Int(1), lit.Bytes(strings.Repeat("a", api.MaxRow-4))))
	for _, s := range []string{whole, strings.Repeat("\xff", api.MaxRow+1), strings.Repeat("\x00", api.MaxRow+1)} {
		if l, e := row.Apply(table, from, s); e != api.ErrLong || l != nil || len(s) != api.MaxRow+1 {
			t.Errorf("Apply of %d bytes = %s, %d, want ErrLong", len(s), shown(l), e)
		}
	}
	if l, e := row.Apply(table, from, strings.Repeat("\x00", api.MaxRow)); e != api.ErrBytes || l != nil {
		t.Errorf("Apply of MaxRow bytes of no change = %s, %d, want ErrBytes", shown(l), e)
	}
}

// Ro3: bytes that are those of no change from a row.
func TestApplyWrong(t *testing.T) {
	from := list(lit.Int(5), lit.Null(), lit.Bool(true), lit.Float(1))
	for _, s := range []string{
		// A column that stays as it is, alone, ahead of others and behind them.
		"00 01 0a", "01 00", "02 02", "03 01 000000000000f03f", "00 01 0a 00 01 0161", "01 01 0161 00 02", "00 01 0c 00 00",
		// No such column, be it the first one or behind others.
		"04 01 0a", "05 01", "ffffffffffffffffff01 01", "02 01 01 01", "03 01 0000000000000040 00 01 0000000000000040", "03 01 0000000000000040 ffffffffffffffffff01 01",
		"80808080808080808001 01", "ffffffffffffffff7f 01", "fcffffffffffffffff01 01 0c",
		// A varint that is too long or cut.
		"8000 01 0c", "80", "ff", "8200 01", "ffffffffffffffffffff01 01", "80808080808080808002 01 0c", "00 01 8c00", "00 01 8c", "00 01",
		// Pairs and values that may not be: null for an int, spare pairs, a text that is none, cut ones.
		"00", "01", "00 00", "00 02 0c", "00 03 0c", "00 05 0c", "00 09 0c", "00 41 0c", "02 00", "02 03", "02 05", "02 11", "03 00", "03 02 0000000000000040",
		"01 01", "01 01 01", "01 01 01ff", "01 01 0261", "01 02 0161", "01 01 8100 61", "03 01 00000000000000",
		// What stands behind a change.
		"00 01 0c 00", "00 01 0c 04", "01 01 0161 61", "03 01 0000000000000040 00", "02 01 00",
	} {
		if l, e := row.Apply(simple(), from, unhex(s)); e != api.ErrBytes || l != nil {
			t.Errorf("Apply(%s) = %s, %d, want ErrBytes", s, shown(l), e)
		}
	}
}

// Ro3, Ro4: of bytes of up to three just those are taken that lead from a row to another one.
func TestApplyShort(t *testing.T) {
	for _, c := range []struct {
		kinds []string
		from  []api.Value
	}{
		{[]string{"int", "bool null"}, list(lit.Int(-7), lit.Null())},
		{[]string{"bool", "int null"}, list(lit.Bool(true), lit.Int(3))},
		{[]string{"bool", "text null", "bytes null"}, list(lit.Bool(false), lit.Text(""), lit.Null())},
		{[]string{"bool", "bytes", "float null"}, list(lit.Bool(false), lit.Bytes("ab"), lit.Float(2))},
		{[]string{"bool", "bool null", "bool", "bool", "bool null", "bool null"}, list(lit.Bool(true), lit.Bool(true), lit.Bool(false), lit.Bool(false), lit.Null(), lit.Bool(false))},
	} {
		table := tableOf(c.kinds...)
		have := map[string][]api.Value{"": c.from}
		for _, to := range shortSteps(table, c.from) {
			s := changeBytes(c.from, to)
			have[s] = to
			if l, e := row.Apply(table, c.from, s); e != api.OK || !identical(l, to) {
				t.Fatalf("Apply(%s, %x) = %s, %d, want %s", shown(c.from), s, shown(l), e, shown(to))
			}
		}
		for s := range shortTexts {
			want, ok := have[s]
			l, e := row.Apply(table, c.from, s)
			if ok != (e == api.OK) || !ok && (e != api.ErrBytes || l != nil) || !identical(l, want) {
				t.Fatalf("Apply(%s, %x) = %s, %d, want %s", shown(c.from), s, shown(l), e, shown(want))
			}
		}
	}
}

// shortSteps is all rows to which a change of three bytes at most leads; such a change has one column, since two take four bytes.
func shortSteps(table api.Table, from []api.Value) [][]api.Value {
	var rows [][]api.Value
	for i, c := range table.Columns {
		for _, v := range shortValues(c, 1) {
			to := slices.Clone(from)
			to[i] = v
			if len(changeBytes(from, to)) <= 3 {
				rows = append(rows, to)
			}
		}
	}
	return rows
}

// Ro3, Ro4: what broken changes lead to is a row to which the change has just these bytes.
func TestApplyBroken(t *testing.T) {
	r := seeded(5)
	for _, table := range tables() {
		for range 200 {
			from := randomRow(r, table)
			s := changeBytes(from, near(r, table, from))
			for range 10 {
				appliesOrNot(t, table, from, broken(r, s))
			}
			appliesOrNot(t, table, from, s[:r.IntN(len(s)+1)])
			appliesOrNot(t, table, near(r, table, from), s)
		}
	}
}

func appliesOrNot(t *testing.T, table api.Table, from []api.Value, s string) {
	t.Helper()
	l, e := row.Apply(table, from, s)
	switch {
	case e == api.ErrBytes && l == nil:
	case e == api.OK && schema.Admits(table, l) == api.OK && changeBytes(from, l) == s:
		if again, e := row.Change(table, from, l); e != api.OK || again != s {
			t.Fatalf("Change to what Apply told of %x = %x, %d", s, again, e)
		}
	default:
		t.Fatalf("Apply(%s, %x) = %s, %d", shown(from), s, shown(l), e)
	}
}

// R3: what is handed in, and what lies behind it, is as it was, and an answer shares nothing with it.
func TestSharesNothing(t *testing.T) {
	table := mixed()
	room := append(mixedRow(), lit.Int(99), lit.Int(98))
	from := room[:len(table.Columns)]
	to := randomRow(seeded(6), table)
	kept := slices.Clone(to)
	calls := []func() []api.Value{
		func() []api.Value { l, _ := row.Apply(table, from, ""); return l },
		func() []api.Value { l, _ := row.Apply(table, from, changeBytes(from, to)); return l },
		func() []api.Value { l, _ := row.Decode(table, rowBytes(from)); return l },
		func() []api.Value {
			row.Encode(table, from)
			row.Key(table, from)
			row.Entry(table, 1, from)
			row.Change(table, from, to)
			row.Change(table, to, from)
			row.Same(from, to)
			return nil
		},
	}
	for i, call := range calls {
		l := call()
		for j := range l {
			l[j] = lit.Text("other")
		}
		_ = append(l, lit.Text("behind"))
		if !identical(room, append(mixedRow(), lit.Int(99), lit.Int(98))) || !identical(to, kept) {
			t.Errorf("behind call %d the rows are %s, %s", i, shown(room), shown(to))
		}
	}
	if !sameLists(table, mixed()) {
		t.Errorf("the table is %v", table)
	}
}

func sameLists(a, b api.Table) bool {
	return slices.Equal(a.Key, b.Key) && slices.EqualFunc(a.Indexes, b.Indexes, func(a, b api.Index) bool {
		return slices.Equal(a.Columns, b.Columns)
	})
}

// R3: an index's columns are not written behind, where there is room.
func TestEntryLeavesRoom(t *testing.T) {
	table := mixed()
	columns := []int{9, 3, 77, 77, 77}
	table.Indexes[0].Columns = columns[:2]
	if _, e := row.Entry(table, 0, mixedRow()); e != api.OK {
		t.Fatal(e)
	}
	if !slices.Equal(columns, []int{9, 3, 77, 77, 77}) {
		t.Errorf("the columns are %v", columns)
	}
}
