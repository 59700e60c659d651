package schema_test

import (
	"math/rand/v2"
	"regexp"
	"slices"
	"strings"
	"testing"

	"vellum/api"
	"vellum/lit"
	"vellum/schema"
	"vellum/value"
)

// withPlainNaNs is a table whose defaults that are NaN have the one NaN that is read.
func withPlainNaNs(t api.Table) api.Table {
	t = copyOf(t)
	for i, c := range t.Columns {
		if c.Default.F != c.Default.F {
			t.Columns[i].Default = lit.Bits(plainNaN)
		}
	}
	return t
}

// Sc5, P9: Parse of Print is the table, and Print of that the text.
func TestThereAndBack(t *testing.T) {
	r := seeded(1)
	for range 3000 {
		table := randomTable(r)
		if e := schema.Check(table); e != api.OK {
			t.Fatalf("Check(%v) = %d, want OK", table, e)
		}
		s, e := schema.Print(table)
		if e != api.OK {
			t.Fatalf("Print(%v) = %d, want OK", table, e)
		}
		parses(t, s, withPlainNaNs(table))
		if again, _ := schema.Print(withPlainNaNs(table)); again != s {
			t.Errorf("Print of what Parse told = %q, want %q", again, s)
		}
	}
}

// The pieces of a text, as the chapter has them, found by an expression.
var piece = regexp.MustCompile(`^(?:[ \t\n\r]+|x'[^']*'|'(?:[^']|'')*'|[A-Za-z0-9_.+-]+|[(),])`)

// cut is the pieces of a text, blanks too; nil, if it has something else.
func cut(s string) []string {
	var pieces []string
	for s != "" {
		p := piece.FindString(s)
		if p == "" {
			return nil
		}
		pieces = append(pieces, p)
		s = s[len(p):]
	}
	return pieces
}

func isBlank(p string) bool { return strings.Trim(p, " \t\n\r") == "" }

func isSign(p string) bool { return p == "(" || p == ")" || p == "," }

var nameLike = regexp.MustCompile(`^[A-Za-z_][A-Za-z0-9_]*$`)

// class is what a piece stands for in the shape of a text: a sign, a word that is kept, N: a name, V: another value, ?: nothing.
func class(p string) string {
	switch {
	case isSign(p):
		return p
	case slices.Contains(kept, p):
		return p
	case nameLike.MatchString(p):
		if _, e := value.Parse(p); e == api.OK {
			return "NV"
		}
		return "N"
	}
	if _, e := value.Parse(p); e == api.OK {
		return "V"
	}
	return "?"
}

// shape is the form of all texts over their pieces' classes.
var shape = func() *regexp.Regexp {
	const (
		name   = `NV? `
		names  = `\( ` + name + `(?:, ` + name + `)*\) `
		column = name + `(?:bool|int|float|text|bytes) (?:not null )?(?:default (?:N?V|null|true|false) )?, `
		index  = `, (?:unique )?index ` + name + names
		ref    = `, foreign key ` + names + `references ` + name
	)
	return regexp.MustCompile(`^create table ` + name + `\( (?:` + column + `)+primary key ` + names + `(?:` + index + `)*(?:` + ref + `)*\) $`)
}()

// isText tells whether a text is one of a table.
func isText(s string) bool {
	var classes strings.Builder
	ahead := " "
	for _, p := range cut(s) {
		if !isBlank(p) && !isBlank(ahead) && !isSign(p) && !isSign(ahead) {
			return false
		}
		if !isBlank(p) {
			classes.WriteString(class(p) + " ")
		}
		ahead = p
	}
	return shape.MatchString(classes.String())
}

// blanked is a text with other blanks: as many as may be anywhere, and none where none need be.
func blanked(r *rand.Rand, s string) string {
	var out strings.Builder
	pieces := slices.DeleteFunc(cut(s), isBlank)
	for i, p := range pieces {
		needed := i > 0 && !isSign(p) && !isSign(pieces[i-1])
		for n := r.IntN(3); n > 0 || needed; n-- {
			out.WriteByte(" \t\n\r"[r.IntN(4)])
			needed = false
		}
		out.WriteString(p)
	}
	return out.String() + strings.Repeat("\n", r.IntN(2))
}

// Sc4: blanks change nothing.
func TestBlanks(t *testing.T) {
	r := seeded(2)
	for range 2000 {
		table := randomTable(r)
		s, _ := schema.Print(table)
		parses(t, blanked(r, s), withPlainNaNs(table))
	}
}

// mutant is a text with some pieces, or bytes, taken away, put in, or changed.
func mutant(r *rand.Rand, s string) string {
	pieces := cut(s)
	if r.IntN(3) == 0 || len(pieces) == 0 {
		i := r.IntN(len(s))
		const bytes = "aA_0.+-x'(), \t\n\r\x00\xff;"
		b := bytes[r.IntN(len(bytes))]
		return []string{s[:i] + s[i+1:], s[:i] + string([]byte{b}) + s[i:], s[:i] + string([]byte{b}) + s[i+1:], s[:i], s[i:]}[r.IntN(5)]
	}
	other := strings.Fields("( ) , a A b int text not null default primary key unique index foreign references 5 -1.5 'x' x'00' x '' true NaN select 1a create table")
	i, j := r.IntN(len(pieces)), r.IntN(len(pieces))
	switch r.IntN(4) {
	case 0:
		pieces = slices.Delete(pieces, i, i+1)
	case 1:
		pieces = slices.Insert(pieces, i, other[r.IntN(len(other))], " ")
	case 2:
		pieces[i] = other[r.IntN(len(other))]
	case 3:
		pieces[i], pieces[j] = pieces[j], pieces[i]
	}
	return strings.Join(pieces, "")
}

// Sc4: ErrDDL is told just of what is no text; what is read is printed and read again as the same.
func TestMutants(t *testing.T) {
	r := seeded(3)
	texts := 0
	for range 5000 {
		table := randomTable(r)
		table.Indexes = table.Indexes[:min(len(table.Indexes), 2)]
		table.Refs = table.Refs[:min(len(table.Refs), 2)]
		s, e := schema.Print(table)
		if e != api.OK {
			t.Fatal(e)
		}
		for range 1 + r.IntN(2) {
			if s != "" {
				s = mutant(r, s)
			}
		}
		got, e := schema.Parse(s)
		if isText(s) == (e == api.ErrDDL) {
			t.Fatalf("Parse(%q) = %d, but it is a text: %v", s, e, isText(s))
		}
		if e == api.ErrDDL {
			continue
		}
		texts++
		if e != api.OK {
			if !sameTable(got, api.Table{}) {
				t.Fatalf("Parse(%q) tells %v beside %d", s, got, e)
			}
			continue
		}
		again, e := schema.Print(got)
		if e != api.OK {
			t.Fatalf("Print of what Parse told of %q: %d", s, e)
		}
		parses(t, again, got)
	}
	if texts < 200 {
		t.Errorf("only %d mutants are texts", texts)
	}
}

// R3: what is handed in stays as it is, and so does what lies behind the ends of its lists.
func TestNothingIsChanged(t *testing.T) {
	table := full()
	ahead := copyOf(table)
	for i := range table.Indexes {
		table.Indexes[i].Columns = append(table.Indexes[i].Columns, 99)[:len(table.Indexes[i].Columns)]
	}
	columns := append(slices.Clone(table.Columns), api.Column{Name: "behind"})
	table.Columns = columns[:len(table.Columns)]
	key := append(slices.Clone(table.Key), 99)
	table.Key = key[:len(table.Key)]
	row := append(fullRow(), lit.Int(99))
	schema.Check(table)
	schema.Column(table, "raw")
	schema.Print(table)
	schema.Admits(table, row[:6])
	schema.Fill(table, key[:2], row[4:6])
	if !sameTable(table, ahead) || columns[len(table.Columns)].Name != "behind" || key[len(table.Key)] != 99 {
		t.Errorf("the table is %v, was %v", table, ahead)
	}
	for _, index := range table.Indexes {
		if n := len(index.Columns); index.Columns[:n+1][n] != 99 {
			t.Errorf("behind an index's columns: %v", index.Columns[:n+1])
		}
	}
	if !sameRow(row, append(fullRow(), lit.Int(99))) {
		t.Errorf("the row is %s", shown(row))
	}
}

// R3: no two lists of what Parse tells share memory, their spare room too.
func TestParseSharesNothing(t *testing.T) {
	const s = "create table t (a int not null, b int not null, c int not null, primary key (a, b, c), index i (a, b, c), index j (a), foreign key (c) references u, foreign key (b) references u)"
	table, e := schema.Parse(s)
	if e != api.OK {
		t.Fatal(e)
	}
	want := copyOf(table)
	lists := [][]int{table.Key}
	for _, index := range table.Indexes {
		lists = append(lists, index.Columns)
	}
	for _, ref := range table.Refs {
		lists = append(lists, ref.Columns)
	}
	for i, l := range lists {
		for j := range l[:cap(l)] {
			l[:cap(l)][j] += 100 * (i + 1)
		}
	}
	for i, l := range lists {
		for _, n := range l {
			if n < 100*(i+1) || n > 100*(i+1)+2 {
				t.Errorf("list %d is %v", i, l)
			}
		}
	}
	if again, e := schema.Parse(s); e != api.OK || !sameTable(again, want) {
		t.Errorf("Parse = %v, %d, then, want %v", again, e, want)
	}
}
