package schema_test

import (
	"math"
	"math/rand/v2"
	"strings"
	"testing"

	"vellum/api"
	"vellum/lit"
	"vellum/schema"
)

// fullRow is a row of the table full.
func fullRow() []api.Value {
	return []api.Value{lit.Int(1), lit.Bool(true), lit.Bits(otherNaN), lit.Null(), lit.Bytes("\xff"), lit.Int(math.MinInt64)}
}

// Sc2: a row has a value that may be, of its kind or null, at each column.
func TestAdmits(t *testing.T) {
	long := strings.Repeat("a", api.MaxRow+1)
	for _, c := range []struct {
		column int
		v      api.Value
		want   api.Errno
	}{
		{0, lit.Int(0), api.OK}, {0, lit.Null(), api.ErrNull}, {0, lit.Float(1), api.ErrColumn}, {0, lit.Bool(true), api.ErrColumn}, {0, lit.Text("1"), api.ErrColumn},
		{1, lit.Bool(false), api.OK}, {1, lit.Null(), api.ErrNull}, {1, lit.Int(1), api.ErrColumn},
		{2, lit.Float(1), api.OK}, {2, lit.Null(), api.OK}, {2, lit.Bits(negativeZero), api.OK}, {2, lit.Int(1), api.ErrColumn},
		{3, lit.Text(""), api.OK}, {3, lit.Text(long[1:]), api.OK}, {3, lit.Null(), api.OK}, {3, lit.Bytes("a"), api.ErrColumn},
		{3, lit.Text(long), api.ErrLong}, {3, lit.Bytes(long), api.ErrLong}, {3, lit.Text("\xff"), api.ErrValue},
		{4, lit.Bytes("\xff"), api.OK}, {4, lit.Null(), api.OK}, {4, lit.Text("a"), api.ErrColumn}, {4, lit.Text("\xff"), api.ErrValue},
		{5, lit.Int(math.MaxInt64), api.OK}, {5, lit.Null(), api.ErrNull},
		{0, api.Value{Kind: -1}, api.ErrValue}, {0, api.Value{Kind: 6}, api.ErrValue}, {0, api.Value{N: 1}, api.ErrValue}, {3, api.Value{S: "a"}, api.ErrValue},
		{1, api.Value{Kind: api.KindBool, N: 2}, api.ErrValue}, {0, api.Value{Kind: api.KindInt, S: long}, api.ErrValue},
	} {
		row := fullRow()
		row[c.column] = c.v
		if e := schema.Admits(full(), row); e != c.want {
			t.Errorf("Admits of %s at column %d = %d, want %d", shown([]api.Value{c.v}), c.column, e, c.want)
		}
	}
}

// Sc2, R2: the table first, then the count, then column by column.
func TestAdmitsTellsTheFirst(t *testing.T) {
	broken := full()
	broken.Refs[1].Table = ""
	bad := fullRow()
	bad[0] = api.Value{Kind: 9}
	for _, row := range [][]api.Value{nil, fullRow(), bad} {
		if e := schema.Admits(broken, row); e != api.ErrName {
			t.Errorf("Admits of a table that may not be = %d, want ErrName", e)
		}
	}
	for _, row := range [][]api.Value{nil, {}, bad[:5], append(fullRow(), lit.Null()), append(bad, bad...)} {
		if e := schema.Admits(full(), row); e != api.ErrArg {
			t.Errorf("Admits of %d values = %d, want ErrArg", len(row), e)
		}
	}
	wrong := map[api.Errno]api.Value{api.ErrValue: {Kind: 9}, api.ErrLong: lit.Text(strings.Repeat("a", api.MaxRow+1)), api.ErrNull: lit.Null(), api.ErrColumn: lit.Text("a")}
	for want, first := range wrong {
		for other, second := range wrong {
			row := fullRow()
			row[1], row[5] = first, second
			if e := schema.Admits(full(), row); e != want {
				t.Errorf("Admits with %d ahead of %d = %d", want, other, e)
			}
		}
	}
}

// Sc3: the chapter's examples.
func TestFillExamples(t *testing.T) {
	if row, e := schema.Fill(simple(), []int{0}, []api.Value{lit.Int(1)}); e != api.OK || !sameRow(row, []api.Value{lit.Int(1), lit.Text("x")}) {
		t.Errorf("Fill = %s, %d, want 1 and x", shown(row), e)
	}
	if row, e := schema.Fill(simple(), []int{1}, []api.Value{lit.Text("y")}); e != api.ErrNull || row != nil {
		t.Errorf("Fill without the key = %s, %d, want ErrNull", shown(row), e)
	}
	if row, e := schema.Fill(simple(), []int{0}, []api.Value{lit.Text("q")}); e != api.ErrColumn || row != nil {
		t.Errorf("Fill of a text for an int = %s, %d, want ErrColumn", shown(row), e)
	}
}

// Sc3: values stand at their columns, in whatever order these are, and defaults at the others.
func TestFill(t *testing.T) {
	r := rand.New(rand.NewPCG(3, 4))
	for range 2000 {
		table := randomTable(r)
		columns := randomColumns(r, len(table.Columns))
		if r.IntN(4) == 0 {
			columns = columns[:r.IntN(len(columns)+1)]
		}
		var given []api.Value
		want := make([]api.Value, len(table.Columns))
		for i, c := range table.Columns {
			want[i] = c.Default
		}
		for _, column := range columns {
			of := values(table.Columns[column].Kind)
			if r.IntN(20) == 0 {
				of = values(r.IntN(6))
			}
			v := of[r.IntN(len(of))]
			given = append(given, v)
			want[column] = v
		}
		err := schema.Admits(table, want)
		if err != api.OK {
			want = nil
		}
		if row, e := schema.Fill(table, columns, given); e != err || !sameRow(row, want) {
			t.Fatalf("Fill(%v, %v, %s) = %s, %d, want %s, %d", table, columns, shown(given), shown(row), e, shown(want), err)
		}
	}
}

// Sc3, R2: the table first, then what is wrong with the columns, then the row.
func TestFillRefuses(t *testing.T) {
	broken := simple()
	broken.Key = nil
	one, bad := lit.Int(1), api.Value{Kind: 9}
	for _, c := range []struct {
		table   api.Table
		columns []int
		values  []api.Value
		want    api.Errno
	}{
		{broken, []int{0}, []api.Value{one}, api.ErrKeyless},
		{broken, []int{9}, nil, api.ErrKeyless},
		{api.Table{}, []int{0}, []api.Value{one}, api.ErrName},
		{simple(), []int{0}, nil, api.ErrArg},
		{simple(), nil, []api.Value{one}, api.ErrArg},
		{simple(), []int{0}, []api.Value{one, one}, api.ErrArg},
		{simple(), []int{0, 1}, []api.Value{one}, api.ErrArg},
		{simple(), []int{0, 1}, []api.Value{bad}, api.ErrArg},
		{simple(), []int{0, 0}, []api.Value{one, one}, api.ErrArg},
		{simple(), []int{0, 1, 0}, []api.Value{bad, bad, bad}, api.ErrArg},
		{simple(), []int{-1}, []api.Value{one}, api.ErrArg},
		{simple(), []int{0, 2}, []api.Value{one, one}, api.ErrArg},
		{simple(), []int{math.MinInt}, []api.Value{one}, api.ErrArg},
		{simple(), []int{math.MaxInt}, []api.Value{one}, api.ErrArg},
		{simple(), []int{api.MaxColumns}, []api.Value{one}, api.ErrArg},
		{simple(), nil, nil, api.ErrNull},
		{simple(), []int{0}, []api.Value{bad}, api.ErrValue},
		{simple(), []int{0, 1}, []api.Value{one, lit.Text("\xff")}, api.ErrValue},
		{simple(), []int{1, 0}, []api.Value{one, lit.Null()}, api.ErrNull},
		{simple(), []int{1, 0}, []api.Value{one, one}, api.ErrColumn},
		{simple(), []int{1}, []api.Value{bad}, api.ErrNull},
		{simple(), []int{0, 1}, []api.Value{one, lit.Text(strings.Repeat("a", api.MaxRow+1))}, api.ErrLong},
	} {
		if row, e := schema.Fill(c.table, c.columns, c.values); e != c.want || len(row) != 0 {
			t.Errorf("Fill(%v, %v, %s) = %s, %d, want %d", c.table, c.columns, shown(c.values), shown(row), e, c.want)
		}
	}
}

// Sc3: a null that is given stands, where a default would.
func TestFillNullOverDefault(t *testing.T) {
	row, e := schema.Fill(simple(), []int{1, 0}, []api.Value{lit.Null(), lit.Int(2)})
	if e != api.OK || !sameRow(row, []api.Value{lit.Int(2), lit.Null()}) {
		t.Errorf("Fill = %s, %d, want 2 and null", shown(row), e)
	}
	one := api.Table{Name: "t", Columns: []api.Column{{Name: "a", Kind: api.KindInt, Default: lit.Int(4)}}, Key: []int{0}}
	if row, e := schema.Fill(one, nil, nil); e != api.OK || !sameRow(row, []api.Value{lit.Int(4)}) {
		t.Errorf("Fill with nothing = %s, %d, want 4", shown(row), e)
	}
	if row, e := schema.Fill(one, []int{0}, []api.Value{lit.Null()}); e != api.ErrNull || row != nil {
		t.Errorf("Fill with null = %s, %d, want ErrNull", shown(row), e)
	}
}

// R3: the row is new memory, and nothing behind the lists' ends is changed.
func TestFillSharesNothing(t *testing.T) {
	table := simple()
	columns := []int{0, 1, 77}
	given := []api.Value{lit.Int(1), lit.Text("y"), lit.Int(99)}
	row, e := schema.Fill(table, columns[:2], given[:2])
	if e != api.OK {
		t.Fatal(e)
	}
	row[0], row[1] = lit.Null(), lit.Null()
	_ = append(row, lit.Int(5))
	if !sameRow(given, []api.Value{lit.Int(1), lit.Text("y"), lit.Int(99)}) || columns[2] != 77 || !sameTable(table, simple()) {
		t.Errorf("what was handed in is %s, %v, %v", shown(given), columns, table)
	}
}
