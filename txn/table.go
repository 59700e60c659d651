package txn

import (
	"slices"

	"vellum/api"
	"vellum/code"
	"vellum/index"
	"vellum/row"
	"vellum/store"
	"vellum/value"
)

// tableKey is the number of the index of a table's own key.
const tableKey = -1

// table is a table with its rows.
type table struct {
	number int
	as     api.Table
	store  *store.Store
	// indexes has that of the table's key first, and then its Indexes'.
	indexes []*index.Index
	// rows is how many there are in the store.
	rows int
	// loose is that there may be entries that no version and no write has, and that stand only since their rows have intents. If it is not set, a commit leaves nothing to be swept.
	loose bool
}

// newTable is a table that may be, without rows.
func newTable(number int, t api.Table) *table {
	rows, _ := store.New(api.MaxRows)
	made := &table{number: number, as: ownTable(t), store: rows}
	for n := tableKey; n < len(t.Indexes); n++ {
		x, _ := index.New(t, n)
		made.indexes = append(made.indexes, x)
	}
	return made
}

// ownTable is a table in memory of its own.
func ownTable(t api.Table) api.Table {
	t.Columns = slices.Clone(t.Columns)
	t.Key = slices.Clone(t.Key)
	t.Indexes = slices.Clone(t.Indexes)
	for i := range t.Indexes {
		t.Indexes[i].Columns = slices.Clone(t.Indexes[i].Columns)
	}
	t.Refs = slices.Clone(t.Refs)
	for i := range t.Refs {
		t.Refs[i].Columns = slices.Clone(t.Refs[i].Columns)
	}
	return t
}

// index is the one of a number.
func (t *table) index(n int) (*index.Index, api.Errno) {
	if n < tableKey || n >= len(t.as.Indexes) {
		return nil, api.ErrNone
	}
	return t.indexes[n-tableKey], api.OK
}

// key is the key of values that somebody asks for.
func (t *table) key(l []api.Value) (string, api.Errno) {
	if len(l) != len(t.as.Key) {
		return "", api.ErrArg
	}
	for i, column := range t.as.Key {
		// A null has another kind than any column.
		if l[i].Kind != t.as.Columns[column].Kind {
			return "", api.ErrArg
		}
	}
	for _, v := range l {
		if err := value.Check(v); err != api.OK {
			return "", err
		}
	}
	return code.Encode(l)
}

// keys is a row's keys: that of the table first, and then those of its indexes; or why the row may not be written.
func (t *table) keys(l []api.Value) ([]string, api.Errno) {
	key, err := row.Key(t.as, l)
	if err != api.OK {
		return nil, err
	}
	keys := []string{key}
	for n := range t.as.Indexes {
		key, err := row.Entry(t.as, n, l)
		if err != api.OK {
			return nil, err
		}
		keys = append(keys, key)
	}
	if _, err := row.Encode(t.as, l); err != api.OK {
		return nil, err
	}
	return keys, api.OK
}

// point is one of the table's key.
func (t *table) point(key string) api.Point {
	return api.Point{Table: t.number, Index: tableKey, Key: key}
}

// points is where a row stands that has these keys.
func (t *table) points(keys []string) []api.Point {
	l := make([]api.Point, len(keys))
	for i, key := range keys {
		l[i] = api.Point{Table: t.number, Index: i + tableKey, Key: key}
	}
	return l
}

// slot is the one to which a key of the table leads; false: it leads to none.
func (t *table) slot(key string) (int, bool) {
	hits := t.indexes[0].Find(code.Point(key), false, 1)
	if len(hits) == 0 {
		return 0, false
	}
	return hits[0].Slot, true
}

// isFull tells whether there is no room for one more row.
func (t *table) isFull() bool {
	return t.rows == api.MaxRows
}

// add adds a row that a transaction writes, where there is room: its slot.
func (t *table) add(txn int, w api.Write) int {
	slot, _ := t.store.Add(txn, w)
	t.rows++
	t.enter(w.Row, slot)
	return slot
}

// enter puts a row's entries. None is taken: a key of the table leads to one slot as long as a row is there, and an index's key ends in it.
func (t *table) enter(l []api.Value, slot int) {
	for _, x := range t.indexes {
		x.Put(l, slot)
	}
}
