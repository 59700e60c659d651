package guard

import (
	"slices"

	"vellum/api"
)

// link is a reference: of which table, its number there and its columns, and to which table it leads.
type link struct {
	from    int
	n       int
	columns []int
	to      int
	// index is one by whose keys' beginnings those are found that refer to a key, and order is the place in that key of each value with which they begin. If there is none such, it is the table's key, and they begin with nothing.
	index int
	order []int
}

// linksOf is all references of tables that may be: by their tables, in order, and in each one in order.
func linksOf(tables []api.Table) ([]link, api.Errno) {
	var l []link
	for from, t := range tables {
		for n, ref := range t.Refs {
			to := slices.IndexFunc(tables, func(other api.Table) bool { return other.Name == ref.Table })
			if to < 0 || !slices.Equal(kinds(t, ref.Columns), kinds(tables[to], tables[to].Key)) {
				return nil, api.ErrLink
			}
			index, order := wayBy(t, ref.Columns)
			l = append(l, link{from: from, n: n, columns: ref.Columns, to: to, index: index, order: order})
		}
	}
	return l, api.OK
}

// kinds is those of some columns of a table.
func kinds(t api.Table, columns []int) []int {
	l := make([]int, len(columns))
	for i, c := range columns {
		l[i] = t.Columns[c].Kind
	}
	return l
}

// wayBy is the first index of a table that begins with some columns, in whatever order, and the place of each of its first columns among these.
func wayBy(t api.Table, columns []int) (int, []int) {
	if order := placesOf(t.Key, columns); len(order) > 0 {
		return tableKey, order
	}
	for n, x := range t.Indexes {
		if order := placesOf(x.Columns, columns); len(order) > 0 {
			return n, order
		}
	}
	return tableKey, nil
}

// placesOf is the place of each of the first columns of an index among some columns, of which none stands twice; nothing, if it does not begin with these.
func placesOf(index, columns []int) []int {
	if len(index) < len(columns) {
		return nil
	}
	var order []int
	for _, c := range index[:len(columns)] {
		place := slices.Index(columns, c)
		if place < 0 {
			return nil
		}
		order = append(order, place)
	}
	return order
}
