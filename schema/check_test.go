package schema_test

import (
	"fmt"
	"math"
	"strings"
	"testing"

	"vellum/api"
	"vellum/lit"
	"vellum/schema"
)

// Sc1: a name begins with a letter or _, goes on with these and digits, and is no word.
func TestName(t *testing.T) {
	for b := range 256 {
		c := string([]byte{byte(b)})
		letter := strings.Contains("abcdefghijklmnopqrstuvwxyz_", c)
		digit := strings.Contains("0123456789", c)
		for s, want := range map[string]bool{c: letter, c + "q": letter, "q" + c: letter || digit, "q" + c + "_": letter || digit, "__" + c: letter || digit} {
			if schema.Name(s) != want {
				t.Errorf("Name(%q) = %v, want %v", s, !want, want)
			}
		}
	}
	for s, want := range map[string]bool{
		"": false, "é": false, "aé": false, "a b": false, "a ": false, " a": false, "a\n": false, "A": false, "aB": false, "1": false, "0a": false,
		"_": true, "__": true, "_1": true, "x": true, "read": true, "committed": true, "snapshot": true, "serializable": true,
		strings.Repeat("a", api.MaxName): true, strings.Repeat("a", api.MaxName+1): false, strings.Repeat("_", api.MaxName): true,
		"a" + strings.Repeat("9", api.MaxName-1): true, "a" + strings.Repeat("9", api.MaxName): false,
	} {
		if schema.Name(s) != want {
			t.Errorf("Name(%q) = %v, want %v", s, !want, want)
		}
	}
}

// Sc1: no word is a name, but what is a little longer or shorter than one is.
func TestWordsAreNoNames(t *testing.T) {
	if len(kept) != 22+33 {
		t.Fatalf("%d words", len(kept))
	}
	for _, s := range kept {
		if schema.Name(s) {
			t.Errorf("Name(%q) = true, want false", s)
		}
		for _, near := range []string{s + "_", "_" + s, s + "0", s + "q"} {
			if !schema.Name(near) {
				t.Errorf("Name(%q) = false, want true", near)
			}
		}
		if schema.Name(strings.ToUpper(s)) {
			t.Errorf("Name(%q) = true, want false", strings.ToUpper(s))
		}
	}
}

// fault is something wrong with the table full, and what Check tells of it.
type fault struct {
	name string
	make func(t *api.Table)
	want api.Errno
}

// badColumns is lists that are no columns of the table full, each told by ErrKeyless.
func badColumns() map[string][]int {
	many := make([]int, api.MaxColumns+1)
	for i := range many {
		many[i] = i % 6
	}
	return map[string][]int{
		"none": nil, "empty": {}, "below 0": {-1}, "beyond the last": {0, 6}, "far below": {math.MinInt}, "far beyond": {math.MaxInt}, "beyond all": {api.MaxColumns},
		"twice": {0, 0}, "twice, apart": {5, 0, 5}, "too many": many,
	}
}

// faults is in the order in which Check tells them.
func faults() []fault {
	setColumn := func(i int, set func(c *api.Column)) func(t *api.Table) {
		return func(t *api.Table) { set(&t.Columns[i]) }
	}
	return []fault{
		{"table's name", func(t *api.Table) { t.Name = "Orders" }, api.ErrName},
		{"too many indexes", func(t *api.Table) {
			for i := range api.MaxIndexes {
				t.Indexes = append(t.Indexes, api.Index{Name: fmt.Sprint("i", i), Columns: []int{0}})
			}
		}, api.ErrFull},
		{"first column's name", setColumn(0, func(c *api.Column) { c.Name = "" }), api.ErrName},
		{"first column's kind", setColumn(0, func(c *api.Column) { c.Kind = api.KindNull }), api.ErrColumn},
		{"second column's name", setColumn(1, func(c *api.Column) { c.Name = "is" }), api.ErrName},
		{"second column's default", setColumn(1, func(c *api.Column) { c.Default = lit.Text("x") }), api.ErrColumn},
		{"third column's name again", setColumn(2, func(c *api.Column) { c.Name = "paid" }), api.ErrTwice},
		{"third column's kind", setColumn(2, func(c *api.Column) { c.Kind = 6 }), api.ErrColumn},
		{"fourth column's name", setColumn(3, func(c *api.Column) { c.Name = "4" }), api.ErrName},
		{"last column's name again", setColumn(5, func(c *api.Column) { c.Name = "raw" }), api.ErrTwice},
		{"key", func(t *api.Table) { t.Key = []int{0, 0} }, api.ErrKeyless},
		{"first index's name", func(t *api.Table) { t.Indexes[0].Name = "key" }, api.ErrName},
		{"first index's columns", func(t *api.Table) { t.Indexes[0].Columns = []int{-1} }, api.ErrKeyless},
		{"second index's name again", func(t *api.Table) { t.Indexes[1].Name = t.Indexes[0].Name }, api.ErrTwice},
		{"second index's columns", func(t *api.Table) { t.Indexes[1].Columns = nil }, api.ErrKeyless},
		{"first reference's table", func(t *api.Table) { t.Refs[0].Table = "" }, api.ErrName},
		{"first reference's columns", func(t *api.Table) { t.Refs[0].Columns = []int{1, 2, 1} }, api.ErrKeyless},
		{"second reference's table", func(t *api.Table) { t.Refs[1].Table = "T" }, api.ErrName},
		{"second reference's columns", func(t *api.Table) { t.Refs[1].Columns = []int{6} }, api.ErrKeyless},
	}
}

// Sc1, R2: of two faults the one ahead is told.
func TestCheckTellsTheFirstFault(t *testing.T) {
	list := faults()
	for i, first := range list {
		one := full()
		first.make(&one)
		if e := schema.Check(one); e != first.want {
			t.Errorf("%s: %d, want %d", first.name, e, first.want)
		}
		for _, later := range list[i+1:] {
			two := full()
			later.make(&two)
			first.make(&two)
			if e := schema.Check(two); e != first.want {
				t.Errorf("%s, %s: %d, want %d", first.name, later.name, e, first.want)
			}
		}
	}
}

// Sc1: tables that may be.
func TestCheckTakes(t *testing.T) {
	many := api.Table{Name: "t", Indexes: make([]api.Index, api.MaxIndexes), Refs: make([]api.Ref, api.MaxRefs)}
	for i := range api.MaxColumns {
		many.Columns = append(many.Columns, api.Column{Name: fmt.Sprint("c", i), Kind: api.KindInt})
		many.Key = append(many.Key, api.MaxColumns-1-i)
	}
	for i := range many.Indexes {
		many.Indexes[i] = api.Index{Name: fmt.Sprint("c", i), Columns: many.Key}
	}
	for i := range many.Refs {
		many.Refs[i] = api.Ref{Columns: many.Key, Table: "t"}
	}
	one := api.Table{Name: "_", Columns: []api.Column{{Name: "_", Kind: api.KindBytes}}, Key: []int{0}, Indexes: []api.Index{}, Refs: []api.Ref{}}
	for _, table := range []api.Table{simple(), full(), many, one} {
		if e := schema.Check(table); e != api.OK {
			t.Errorf("Check(%v) = %d, want OK", table, e)
		}
	}
	if e := schema.Check(api.Table{}); e != api.ErrName {
		t.Errorf("Check of nothing = %d, want ErrName", e)
	}
}

// Sc1: as many columns, indexes and references as may be.
func TestCheckCounts(t *testing.T) {
	for _, c := range []struct {
		columns, indexes, refs int
		want                   api.Errno
	}{
		{0, 0, 0, api.ErrFull}, {1, 0, 0, api.OK}, {64, 16, 16, api.OK}, {65, 0, 0, api.ErrFull}, {1000, 0, 0, api.ErrFull},
		{1, 16, 0, api.OK}, {1, 17, 0, api.ErrFull}, {1, 0, 16, api.OK}, {1, 0, 17, api.ErrFull}, {64, 17, 17, api.ErrFull}, {0, 16, 16, api.ErrFull},
	} {
		table := api.Table{Name: "t", Key: []int{0}}
		for i := range c.columns {
			table.Columns = append(table.Columns, api.Column{Name: fmt.Sprint("c", i), Kind: api.KindInt})
		}
		for i := range c.indexes {
			table.Indexes = append(table.Indexes, api.Index{Name: fmt.Sprint("i", i), Columns: []int{0}})
		}
		for range c.refs {
			table.Refs = append(table.Refs, api.Ref{Columns: []int{0}, Table: "u"})
		}
		if e := schema.Check(table); e != c.want {
			t.Errorf("%d columns, %d indexes, %d references: %d, want %d", c.columns, c.indexes, c.refs, e, c.want)
		}
	}
}

// Sc1: a column's default is null or of its kind, and one that may be.
func TestCheckDefaults(t *testing.T) {
	for kind := -2; kind <= 8; kind++ {
		for of := api.KindNull; of <= api.KindBytes; of++ {
			for _, v := range values(of) {
				for _, null := range []bool{false, true} {
					table := simple()
					table.Columns[1] = api.Column{Name: "b", Kind: kind, Null: null, Default: v}
					want := api.ErrColumn
					if kind >= api.KindBool && kind <= api.KindBytes && (v.Kind == kind || v.Kind == api.KindNull) {
						want = api.OK
					}
					if e := schema.Check(table); e != want {
						t.Errorf("kind %d, null %v, default %s: %d, want %d", kind, null, shown([]api.Value{v}), e, want)
					}
				}
			}
		}
	}
	long := strings.Repeat("a", api.MaxRow+1)
	for _, v := range []api.Value{
		{N: 1}, {F: math.Copysign(0, -1)}, {S: "x"}, {Kind: api.KindText, N: 1}, lit.Text("\xff"), lit.Text(long), {Kind: -1}, {Kind: 6},
	} {
		table := simple()
		table.Columns[1].Default = v
		if e := schema.Check(table); e != api.ErrColumn {
			t.Errorf("default %s: %d, want ErrColumn", shown([]api.Value{v}), e)
		}
	}
	table := simple()
	table.Columns[1].Default = lit.Text(long[1:])
	if e := schema.Check(table); e != api.OK {
		t.Errorf("default of MaxRow bytes: %d, want OK", e)
	}
}

// Sc1: keys, indexes and references have columns of the table, none twice.
func TestCheckLists(t *testing.T) {
	for name, list := range badColumns() {
		key, index, ref := full(), full(), full()
		key.Key, index.Indexes[1].Columns, ref.Refs[1].Columns = list, list, list
		for what, table := range map[string]api.Table{"key": key, "index": index, "reference": ref} {
			if e := schema.Check(table); e != api.ErrKeyless {
				t.Errorf("%s, %s: %d, want ErrKeyless", what, name, e)
			}
		}
	}
	for i, c := range full().Columns {
		table := full()
		table.Key = []int{i}
		want := api.OK
		if c.Null {
			want = api.ErrKeyless
		}
		if e := schema.Check(table); e != want {
			t.Errorf("key %d: %d, want %d", i, e, want)
		}
		table = full()
		table.Indexes[0].Columns, table.Refs[0].Columns = []int{i}, []int{i}
		if e := schema.Check(table); e != api.OK {
			t.Errorf("index and reference of %d: %d, want OK", i, e)
		}
	}
}

// Sc1: the first column of a name, whatever the table is.
func TestColumn(t *testing.T) {
	odd := api.Table{Columns: []api.Column{{Name: "b"}, {Name: "int"}, {Name: "b"}, {Name: ""}, {Name: "é"}}}
	for _, c := range []struct {
		table api.Table
		name  string
		want  int
		err   api.Errno
	}{
		{simple(), "a", 0, api.OK}, {simple(), "b", 1, api.OK}, {simple(), "c", 0, api.ErrNone}, {simple(), "", 0, api.ErrNone}, {simple(), "A", 0, api.ErrNone}, {simple(), "t", 0, api.ErrNone},
		{full(), "_5", 5, api.OK}, {full(), "two", 0, api.ErrNone},
		{odd, "b", 0, api.OK}, {odd, "int", 1, api.OK}, {odd, "", 3, api.OK}, {odd, "é", 4, api.OK}, {odd, "a", 0, api.ErrNone}, {api.Table{}, "a", 0, api.ErrNone},
	} {
		if n, e := schema.Column(c.table, c.name); n != c.want || e != c.err {
			t.Errorf("Column(%v, %q) = %d, %d, want %d, %d", c.table, c.name, n, e, c.want, c.err)
		}
	}
}
