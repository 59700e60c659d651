package schema_test

import (
	"fmt"
	"slices"
	"strings"
	"testing"

	"vellum/api"
	"vellum/lit"
	"vellum/schema"
)

// parses tells whether a text is that of a table.
func parses(t *testing.T, s string, want api.Table) {
	t.Helper()
	if got, e := schema.Parse(s); e != api.OK || !sameTable(got, want) {
		t.Errorf("Parse(%.300q) = %v, %d, want %v", s, got, e, want)
	}
}

// refuses tells whether a text is refused, and nothing told beside that.
func refuses(t *testing.T, s string, want api.Errno) {
	t.Helper()
	if got, e := schema.Parse(s); e != want || !sameTable(got, api.Table{}) {
		t.Errorf("Parse(%.300q) = %v, %d, want %d", s, got, e, want)
	}
}

// Sc4: the chapter's examples, and blanks anywhere.
func TestParse(t *testing.T) {
	for _, s := range []string{
		"create table t (a int not null, b text default 'x', primary key (a))",
		"create table t (a int not null, b text default 'x', primary key (a))\n",
		"create table t(a int not null,b text default 'x',primary key(a))",
		"\r\n\t create\ttable\nt\r(\n\n a  int\nnot\r\nnull ,\tb text default\n'x' ,primary key ( a ) ) \t\r\n",
		simpleText,
	} {
		parses(t, s, simple())
	}
	parses(t, fullText, full())
	parses(t, strings.ReplaceAll(fullText, "\n", ""), full())
	parses(t, strings.ReplaceAll(fullText, " ", "\t\r\n "), full())
}

// Sc4: defaults as layer 1 reads them.
func TestParseDefaults(t *testing.T) {
	for _, c := range []struct {
		kind, text string
		want       api.Value
	}{
		{"int", "0", lit.Int(0)}, {"int", "-5", lit.Int(-5)}, {"int", "-9223372036854775808", lit.Int(-1 << 63)}, {"int", "null", lit.Null()},
		{"bool", "true", lit.Bool(true)}, {"bool", "false", lit.Bool(false)},
		{"float", "1.50", lit.Float(1.5)}, {"float", "1e+2", lit.Float(100)}, {"float", "1e-2", lit.Float(0.01)}, {"float", "-0.0", lit.Bits(negativeZero)}, {"float", "NaN", lit.Bits(plainNaN)},
		{"float", "1e2", lit.Float(100)}, {"text", "''", lit.Text("")}, {"text", "'a''b'", lit.Text("a'b")}, {"text", "'), primary key (a\n'", lit.Text("), primary key (a\n")},
		{"text", "'\x00é'", lit.Text("\x00é")}, {"text", "null", lit.Null()}, {"bytes", "x''", lit.Bytes("")}, {"bytes", "x'00fe'", lit.Bytes("\x00\xfe")},
	} {
		for _, not := range []string{"", " not null"} {
			want := simple()
			want.Columns[1] = api.Column{Name: "b", Null: not == "", Default: c.want}
			for kind, word := range []string{"", "bool", "int", "float", "text", "bytes"} {
				if word == c.kind {
					want.Columns[1].Kind = kind
				}
			}
			parses(t, "create table t (a int not null, b "+c.kind+not+" default "+c.text+", primary key (a))", want)
			parses(t, "create table t (a int not null, b "+c.kind+not+" default  "+c.text+"\n,primary key (a))", want)
		}
	}
}

// Sc4: texts of no table.
func TestParseRefusesTexts(t *testing.T) {
	for _, s := range []string{
		"", " ", "create", "create table", "create table t", "create table t (", "create table t ()", "x", "(", ",", "'", "create table t (a int not null, primary key (a)",
		"create table t (primary key (a))",
		"create table t (a int not null)",
		"create table t (a int not null,)",
		"create table t (a int not null, primary key ())",
		"create table t (a int not null, primary key)",
		"create table t (a int not null, primary key (a),)",
		"create table t (a int not null, primary key (a,))",
		"create table t (a int not null, primary key (,a))",
		"create table t (a int not null, primary key (a a))",
		"create table t (a int not null,, primary key (a))",
		"create table t (,a int not null, primary key (a))",
		"create table t (a int not null primary key (a))",
		"create table t (primary key (a), a int not null)",
		"create table t (a int not null, primary key (a), b int)",
		"create table t (a int not null, primary key (a), primary key (a))",
		"create table t (a int not null, primary key (a)) x",
		"create table t (a int not null, primary key (a)))",
		"create table t (a int not null, primary key (a));",
		"create table t a int not null, primary key (a)",
		"create table (a int not null, primary key (a))",
		"create table t u (a int not null, primary key (a))",
		"create t (a int not null, primary key (a))",
		"table t (a int not null, primary key (a))",
		"Create table t (a int not null, primary key (a))",
		"create TABLE t (a int not null, primary key (a))",
		"createtable t (a int not null, primary key (a))",
		"create tablet (a int not null, primary key (a))",
		"create table t (a INT not null, primary key (a))",
		"create table t (a integer not null, primary key (a))",
		"create table t (a null, primary key (a))",
		"create table t (a not null, primary key (a))",
		"create table t (int not null, primary key (a))",
		"create table t (a int null, primary key (a))",
		"create table t (a int not, primary key (a))",
		"create table t (a int notnull, primary key (a))",
		"create table t (a int not not null, primary key (a))",
		"create table t (a int not null not null, primary key (a))",
		"create table t (a int default 5 not null, primary key (a))",
		"create table t (a int default 5 default 5, primary key (a))",
		"create table t (a int not null default, primary key (a))",
		"create table t (a int not null default 5 6, primary key (a))",
		"create table t (a int not null default (5), primary key (a))",
		"create table t (a int not null default 05, primary key (a))",
		"create table t (a int not null default +5, primary key (a))",
		"create table t (a int not null default - 5, primary key (a))",
		"create table t (a int not null default -, primary key (a))",
		"create table t (a int not null default 5., primary key (a))",
		"create table t (a int not null default 1e400, primary key (a))",
		"create table t (a int not null default 9223372036854775808, primary key (a))",
		"create table t (a int not null default b, primary key (a))",
		"create table t (a int not null default TRUE, primary key (a))",
		"create table t (a int not null default nan, primary key (a))",
		"create table t (a int not null default int, primary key (a))",
		"create table t (a text not null default 'x, primary key (a))",
		"create table t (a text not null default 'x'', primary key (a))",
		"create table t (a text not null default 'x'y', primary key (a))",
		"create table t (a text not null default 'x' 'y', primary key (a))",
		"create table t (a text not null default'x', primary key (a))",
		"create table t (a text not null default '\xff', primary key (a))",
		"create table t (a text not null default \"x\", primary key (a))",
		"create table t (a text not null default '" + strings.Repeat("a", api.MaxRow+1) + "', primary key (a))",
		"create table t (a bytes not null default x'0', primary key (a))",
		"create table t (a bytes not null default x'0A', primary key (a))",
		"create table t (a bytes not null default X'00', primary key (a))",
		"create table t (a bytes not null default x '00', primary key (a))",
		"create table t (a bytes not null default x'00''00', primary key (a))",
		"create table t (a bytes not null default x, primary key (a))",
		"create table t (a bytes not null defaultx'00', primary key (a))",
		"create table t (a int not null, primarykey (a))",
		"create table t (a int not null, key (a))",
		"create table t (a int not null, primary (a))",
		"create table t (a int not null, primary key a)",
		"create table t (a int not null, primary key ('a'))",
		"create table t (a int not null, primary key (0))",
		"create table t (a int not null, primary key (a) index i (a))",
		"create table t (a int not null, primary key (a), index (a))",
		"create table t (a int not null, primary key (a), index i)",
		"create table t (a int not null, primary key (a), index i ())",
		"create table t (a int not null, primary key (a), unique i (a))",
		"create table t (a int not null, primary key (a), unique unique index i (a))",
		"create table t (a int not null, primary key (a), index unique i (a))",
		"create table t (a int not null, index i (a), primary key (a))",
		"create table t (a int not null, primary key (a), foreign key (a))",
		"create table t (a int not null, primary key (a), foreign key (a) references)",
		"create table t (a int not null, primary key (a), foreign key (a) references u (a))",
		"create table t (a int not null, primary key (a), foreign key references u)",
		"create table t (a int not null, primary key (a), foreign key () references u)",
		"create table t (a int not null, primary key (a), foreign (a) references u)",
		"create table t (a int not null, primary key (a), unique foreign key (a) references u)",
		"create table t (a int not null, primary key (a), foreign key (a) references u, index i (a))",
		"create table t (a int not null, primary key (a), foreign key (a) references u, unique index i (a))",
		"create table t (a int not null, foreign key (a) references u, primary key (a))",
		"create\vtable t (a int not null, primary key (a))",
		"create table t (a int not null, primary key (a))\x00",
		"create table t (a int not null, primary key (a))\u00a0",
		"create table é (a int not null, primary key (a))",
		"-- t\ncreate table t (a int not null, primary key (a))",
	} {
		refuses(t, s, api.ErrDDL)
	}
}

// withName is a text that has a name at one of the places where names stand.
func withName(place int, name string) string {
	names := []any{"t", "a", "a", "i", "a", "a", "u"}
	names[place] = name
	if place == 1 {
		names[2], names[4], names[5] = name, name, name
	}
	return fmt.Sprintf("create table %s (%s int not null, primary key (%s), index %s (%s), foreign key (%s) references %s)", names...)
}

// Sc4: at the place of a name a word that is no name is told by Check, or as one that no column has; what is no such word is no text.
func TestParseNames(t *testing.T) {
	long := strings.Repeat("a", api.MaxName+1)
	for place := range 7 {
		list := place == 2 || place == 4 || place == 5
		wrong := api.ErrName
		if list {
			wrong = api.ErrNone
		}
		for _, name := range []string{"A", "Int", "aB", long, "NULL", "NaN", "Infinity", "_Z", "a" + strings.Repeat("9", api.MaxName), strings.Repeat("b", 5000)} {
			refuses(t, withName(place, name), wrong)
		}
		for _, name := range []string{"b", "_", "_1", "x", "bb9", "read", long[1:]} {
			if list {
				refuses(t, withName(place, name), api.ErrNone)
			} else if _, e := schema.Parse(withName(place, name)); e != api.OK {
				t.Errorf("Parse(%q): %d, want OK", withName(place, name), e)
			}
		}
		for _, name := range append(slices.Clone(kept), "", "1", "1a", "0", "-a", "+a", "a.b", ".a", "a-b", "a+b", "-1", "'a'", "x'00'", "(a)", "a,b,", "é", "aé", "\"a\"", "`a`", "a b", "a'b'", "*") {
			refuses(t, withName(place, name), api.ErrDDL)
		}
	}
}

// Sc4, R2: what is no text is told ahead of a column that no column is, and that ahead of what Check refuses.
func TestParseOrder(t *testing.T) {
	for s, want := range map[string]api.Errno{
		"create table t (a int not null, a int, primary key (a))":                                                      api.ErrTwice,
		"create table t (a int, primary key (a))":                                                                      api.ErrKeyless,
		"create table t (a int not null, primary key (c))":                                                             api.ErrNone,
		"create table int (a int not null, primary key (a))":                                                           api.ErrDDL,
		"create table T (A int not null, A int, primary key (c)) x":                                                    api.ErrDDL,
		"create table T (A int not null, A int, primary key (c))":                                                      api.ErrNone,
		"create table T (A int not null, A int, primary key (A))":                                                      api.ErrName,
		"create table t (A int not null, A int, primary key (A))":                                                      api.ErrName,
		"create table t (a int not null default 'x', primary key (a, b))":                                              api.ErrNone,
		"create table t (a int not null default 'x', primary key (a, a))":                                              api.ErrColumn,
		"create table t (a int not null, primary key (a, a), index i (b))":                                             api.ErrNone,
		"create table t (a int not null, primary key (a, a), foreign key (a, b) references u)":                         api.ErrNone,
		"create table t (a int not null, primary key (b), index i (a), foreign key (a) references u)":                  api.ErrNone,
		"create table t (a int not null, primary key (a), index i (b), index j (a), foreign key (a) references u)":     api.ErrNone,
		"create table t (a int not null, primary key (a), foreign key (b) references u, foreign key (a) references u)": api.ErrNone,
		"create table t (a int not null, primary key (a), index i (a, b), index i (a)":                                 api.ErrDDL,
		"create table t (a int not null, primary key (a), index i (a), index i (a))":                                   api.ErrTwice,
		"create table t (a int not null, primary key (a), index i (a, a))":                                             api.ErrKeyless,
		"create table t (a int not null, primary key (a), foreign key (a, a) references u)":                            api.ErrKeyless,
		"create table t (a int not null, primary key (a, a))":                                                          api.ErrKeyless,
		"create table t (a int not null default 'x', primary key (a))":                                                 api.ErrColumn,
		"create table t (a int not null default 1.0, primary key (a))":                                                 api.ErrColumn,
		"create table t (a float not null default 1, primary key (a))":                                                 api.ErrColumn,
		"create table t (a text not null default x'00', primary key (a))":                                              api.ErrColumn,
		"create table t (a bool not null default 0, primary key (a))":                                                  api.ErrColumn,
	} {
		refuses(t, s, want)
	}
	// Two columns of one name: it is the first one's, whose fault is not told, since the second one is.
	refuses(t, "create table t (a int, a int not null, primary key (a))", api.ErrTwice)
}

// Sc4: more parts than a table may have are a text, and full.
func TestParseCounts(t *testing.T) {
	column := func(i int) string { return fmt.Sprintf("c%d int not null", i) }
	index := func(i int) string { return fmt.Sprintf("index i%d (c0)", i) }
	ref := func(int) string { return "foreign key (c0) references u" }
	parts := func(count int, part func(int) string) []string {
		var l []string
		for i := range count {
			l = append(l, part(i))
		}
		return l
	}
	for _, c := range []struct {
		columns, indexes, refs int
		want                   api.Errno
	}{
		{1, 0, 0, api.OK}, {64, 16, 16, api.OK}, {65, 0, 0, api.ErrFull}, {1, 17, 0, api.ErrFull}, {1, 0, 17, api.ErrFull}, {2000, 100, 100, api.ErrFull},
	} {
		l := append(parts(c.columns, column), "primary key (c0)")
		l = append(append(l, parts(c.indexes, index)...), parts(c.refs, ref)...)
		s := "create table t (" + strings.Join(l, ", ") + ")"
		table, e := schema.Parse(s)
		if e != c.want {
			t.Errorf("%d columns, %d indexes, %d references: %d, want %d", c.columns, c.indexes, c.refs, e, c.want)
		}
		if e == api.OK && (len(table.Columns) != c.columns || len(table.Indexes) != c.indexes || len(table.Refs) != c.refs) {
			t.Errorf("%d columns, %d indexes, %d references are read as %v", c.columns, c.indexes, c.refs, table)
		}
		if e != api.OK && !sameTable(table, api.Table{}) {
			t.Errorf("beside %d: %v", e, table)
		}
	}
}

// R1: texts as long as may be, with as many parts as they hold, end soon.
func TestParseLongTexts(t *testing.T) {
	const begin, end = "create table t (a int not null, ", ")"
	fill := func(before, part, after string) string {
		return before + strings.Repeat(part, (api.MaxText-len(before)-len(after))/len(part)) + after
	}
	half := begin + strings.Repeat("b int, ", api.MaxText/2/7) + "primary key (a"
	for s, want := range map[string]api.Errno{
		fill(begin, "b int, ", "primary key (a))"):                          api.ErrFull,
		fill(half, ",a", "))"):                                              api.ErrFull,
		fill(half, ",c", "))"):                                              api.ErrNone,
		fill(begin+"primary key (a", ",a", "))"):                            api.ErrKeyless,
		fill(begin+"primary key (a)", ",index i (a)", end):                  api.ErrFull,
		fill(begin+"primary key (a)", ",foreign key (a) references a", end): api.ErrFull,
		fill("", "(", ""):                                                   api.ErrDDL,
		fill("", "'", ""):                                                   api.ErrDDL,
		fill("", " '", ""):                                                  api.ErrDDL,
		fill("", "x' ", ""):                                                 api.ErrDDL,
		fill("", "create table ", ""):                                       api.ErrDDL,
		fill("", "a", ""):                                                   api.ErrDDL,
	} {
		refuses(t, s, want)
	}
	one := api.Table{Name: "t", Columns: []api.Column{{Name: "a", Kind: api.KindInt}}, Key: []int{0}}
	parses(t, fill(begin, " ", "primary key (a))"), one)
}
