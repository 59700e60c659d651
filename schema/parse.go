package schema

import (
	"strings"

	"vellum/api"
	"vellum/value"
	"vellum/words"
)

// Parse is the table of a text.
func Parse(s string) (api.Table, api.Errno) {
	if len(s) > api.MaxText {
		return api.Table{}, api.ErrLong
	}
	d, ok := read(s)
	if !ok {
		return api.Table{}, api.ErrDDL
	}
	t, ok := d.found()
	if !ok {
		return api.Table{}, api.ErrNone
	}
	if err := Check(t); err != api.OK {
		return api.Table{}, err
	}
	return t, api.OK
}

// draft is a table as its text has it: what stands over columns has their names.
type draft struct {
	table   api.Table
	key     []string
	indexes [][]string
	refs    [][]string
}

// found is the table with the numbers of its columns for their names; false, if some name is no column's.
func (d draft) found() (api.Table, bool) {
	numbers := numbersOf(d.table.Columns)
	t, ok := d.table, true
	t.Key, ok = pick(numbers, d.key, ok)
	for i, names := range d.indexes {
		t.Indexes[i].Columns, ok = pick(numbers, names, ok)
	}
	for i, names := range d.refs {
		t.Refs[i].Columns, ok = pick(numbers, names, ok)
	}
	return t, ok
}

// numbersOf is a map, since a text may have many more columns and names than a table may.
func numbersOf(columns []api.Column) map[string]int {
	numbers := make(map[string]int, len(columns))
	for i, c := range columns {
		if _, there := numbers[c.Name]; !there {
			numbers[c.Name] = i
		}
	}
	return numbers
}

// pick is the numbers of names, and whether all was well so far and each name has one.
func pick(numbers map[string]int, names []string, ok bool) ([]int, bool) {
	picked := make([]int, 0, len(names))
	for _, name := range names {
		number, there := numbers[name]
		ok = ok && there
		picked = append(picked, number)
	}
	return picked, ok
}

// read is the draft of a text; false, if it is no table's text.
func read(s string) (draft, bool) {
	pieces, ok := words.Split(s, wordSize, signSize)
	r := reader{rest: pieces, failed: !ok}
	d := r.draft()
	return d, !r.failed && len(r.rest) == 0
}

func wordSize(s string) int { return words.Run(s, "_.+-") }

func signSize(s string) int {
	switch s[0] {
	case '(', ')', ',':
		return 1
	}
	return 0
}

// reader goes over the pieces of a text. Once something else stands there than must, nothing is left of it.
type reader struct {
	rest   []string
	failed bool
}

func (r *reader) fail() {
	r.rest, r.failed = nil, true
}

// next is the next piece; empty, if there is none.
func (r *reader) next() string {
	if len(r.rest) == 0 {
		return ""
	}
	return r.rest[0]
}

// skip goes on behind a piece, if that is the next one.
func (r *reader) skip(piece string) bool {
	if r.next() != piece {
		return false
	}
	r.rest = r.rest[1:]
	return true
}

// expect goes on behind pieces that must be the next ones.
func (r *reader) expect(pieces ...string) {
	for _, piece := range pieces {
		if !r.skip(piece) {
			r.fail()
		}
	}
}

func (r *reader) draft() draft {
	var d draft
	r.expect("create", "table")
	d.table.Name = r.name()
	r.expect("(")
	for {
		d.table.Columns = append(d.table.Columns, r.column())
		r.expect(",")
		if !words.Fits(r.next()) {
			break
		}
	}
	r.expect("primary", "key")
	d.key = r.names()
	for r.skip(",") {
		if r.next() == "foreign" || len(d.refs) > 0 {
			r.ref(&d)
		} else {
			r.index(&d)
		}
	}
	r.expect(")")
	return d
}

func (r *reader) column() api.Column {
	c := api.Column{Name: r.name(), Kind: r.kind(), Null: true}
	if r.skip("not") {
		r.expect("null")
		c.Null = false
	}
	if r.skip("default") {
		c.Default = r.value()
	}
	return c
}

func (r *reader) index(d *draft) {
	unique := r.skip("unique")
	r.expect("index")
	d.table.Indexes = append(d.table.Indexes, api.Index{Name: r.name(), Unique: unique})
	d.indexes = append(d.indexes, r.names())
}

func (r *reader) ref(d *draft) {
	r.expect("foreign", "key")
	d.refs = append(d.refs, r.names())
	r.expect("references")
	d.table.Refs = append(d.table.Refs, api.Ref{Table: r.name()})
}

// name is a copy, so that a table does not hold the whole text from which it was made.
func (r *reader) name() string {
	word := r.next()
	if !words.Fits(word) {
		r.fail()
		return ""
	}
	r.rest = r.rest[1:]
	return strings.Clone(word)
}

func (r *reader) names() []string {
	r.expect("(")
	names := []string{r.name()}
	for r.skip(",") {
		names = append(names, r.name())
	}
	r.expect(")")
	return names
}

func (r *reader) kind() int {
	for kind := api.KindBool; kind <= api.KindBytes; kind++ {
		if r.skip(kindWords[kind]) {
			return kind
		}
	}
	r.fail()
	return 0
}

func (r *reader) value() api.Value {
	v, err := value.Parse(r.next())
	if err != api.OK {
		r.fail()
		return api.Value{}
	}
	r.rest = r.rest[1:]
	return v
}
