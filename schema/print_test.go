package schema_test

import (
	"strings"
	"testing"

	"vellum/api"
	"vellum/lit"
	"vellum/schema"
)

const fullText = `create table orders_1 (
  id int not null,
  paid bool not null default false,
  total float default -1.5e+00,
  note text,
  raw bytes default x'00ff',
  _5 int not null default -7,
  primary key (_5, id),
  index id (note),
  unique index two (raw, id),
  foreign key (total, note) references u,
  foreign key (id) references orders_1
)
`

// Sc4: the text, byte by byte.
func TestPrint(t *testing.T) {
	quoted := simple()
	quoted.Columns[1].Default = lit.Text("it's\n")
	quoted.Columns[0].Default = lit.Int(5)
	quoted.Columns[1].Null = false
	for _, c := range []struct {
		table api.Table
		want  string
	}{
		{simple(), simpleText},
		{full(), fullText},
		{quoted, "create table t (\n  a int not null default 5,\n  b text not null default 'it''s\n',\n  primary key (a)\n)\n"},
	} {
		if s, e := schema.Print(c.table); s != c.want || e != api.OK {
			t.Errorf("Print = %q, %d, want %q", s, e, c.want)
		}
	}
}

// Sc4: what Check refuses.
func TestPrintRefuses(t *testing.T) {
	for _, f := range faults() {
		table := full()
		f.make(&table)
		if s, e := schema.Print(table); s != "" || e != f.want {
			t.Errorf("Print with %s = %q, %d, want %d", f.name, s, e, f.want)
		}
	}
	if s, e := schema.Print(api.Table{}); s != "" || e != api.ErrName {
		t.Errorf("Print of nothing = %q, %d, want ErrName", s, e)
	}
}

// longTable is a table whose text has size bytes.
func longTable(t *testing.T, size int) api.Table {
	t.Helper()
	table := simple()
	for _, name := range []string{"c", "d", "e"} {
		table.Columns = append(table.Columns, api.Column{Name: name, Kind: api.KindText, Null: true, Default: lit.Text(strings.Repeat("a", api.MaxRow))})
	}
	empty := table
	empty.Columns = append([]api.Column{}, table.Columns...)
	empty.Columns[1].Default = lit.Text("")
	s, e := schema.Print(empty)
	if e != api.OK || len(s) > size {
		t.Fatalf("Print of %d bytes: %d", len(s), e)
	}
	table.Columns[1].Default = lit.Text(strings.Repeat("b", size-len(s)))
	return table
}

// Sc4: a text has at most MaxText bytes.
func TestPrintLong(t *testing.T) {
	table := longTable(t, api.MaxText)
	s, e := schema.Print(table)
	if e != api.OK || len(s) != api.MaxText {
		t.Fatalf("Print of MaxText bytes: %d bytes, %d, want OK", len(s), e)
	}
	if back, e := schema.Parse(s); e != api.OK || !sameTable(back, table) {
		t.Errorf("Parse of MaxText bytes: %d, want OK", e)
	}
	if back, e := schema.Parse(s + " "); e != api.ErrLong || !sameTable(back, api.Table{}) {
		t.Errorf("Parse of MaxText + 1 bytes: %d, want ErrLong", e)
	}
	table.Columns[1].Default.S += "b"
	if s, e := schema.Print(table); e != api.ErrLong || s != "" {
		t.Errorf("Print of MaxText + 1 bytes: %d bytes, %d, want ErrLong", len(s), e)
	}
	var most api.Table
	most.Name = "t"
	for _, name := range randomNames(seeded(5), api.MaxColumns) {
		most.Columns = append(most.Columns, api.Column{Name: name, Kind: api.KindBytes, Default: lit.Bytes(strings.Repeat("\x00", api.MaxRow))})
	}
	if s, e := schema.Print(most); e != api.ErrKeyless || s != "" {
		t.Errorf("Print of a long table without a key: %d, want ErrKeyless", e)
	}
	most.Key = []int{0}
	if s, e := schema.Print(most); e != api.ErrLong || s != "" {
		t.Errorf("Print of the longest table: %d, want ErrLong", e)
	}
}
