package index

import (
	"slices"

	"vellum/api"
	"vellum/lit"
	"vellum/row"
)

// withIndex is what of a table its rows' keys in an index hang on, in memory of its own: that index alone, or none, if it is that of the table's key. Layer 4 goes over all of a table for each key: so defaults and references would cost time, beside room.
func withIndex(t api.Table, n int) api.Table {
	own := api.Table{Name: t.Name, Columns: slices.Clone(t.Columns), Key: slices.Clone(t.Key)}
	for i := range own.Columns {
		own.Columns[i].Default = lit.Null()
	}
	if n >= 0 {
		index := t.Indexes[n]
		own.Indexes = []api.Index{{Name: index.Name, Columns: slices.Clone(index.Columns)}}
	}
	return own
}

// key is a row's key in the index.
func (x *Index) key(l []api.Value) (string, api.Errno) {
	if len(x.table.Indexes) == 0 {
		return row.Key(x.table, l)
	}
	return row.Entry(x.table, 0, l)
}
