package vacuum

import (
	"slices"

	"vellum/api"
	"vellum/chain"
	"vellum/code"
	"vellum/txn"
)

// tableKey is the number of the index of a table's own key.
const tableKey = -1

// Look is what each table holds.
//
// A table's rows are looked at once, and what its indexes have is worked out from that: they have an entry for each key of a version, and, where nobody is writing the row, no other one. So the numbers of one table are of one time, whoever writes meanwhile.
func Look(d *txn.DB) ([]api.Waste, api.Errno) {
	if !isMade(d) {
		return nil, api.ErrArg
	}
	horizon := d.Horizon()
	var l []api.Waste
	for n, t := range d.Tables() {
		held, err := d.Latest(n, tableKey, api.Range{Open: true})
		if err != api.OK {
			return nil, err
		}
		l = append(l, wasteOf(held, indexesOf(t), horizon))
	}
	return l, api.OK
}

// indexesOf is of each index of a table, its key's first, the columns whose values make a row's key in it.
func indexesOf(t api.Table) [][]int {
	l := [][]int{t.Key}
	for _, x := range t.Indexes {
		l = append(l, slices.Concat(x.Columns, t.Key))
	}
	return l
}

func wasteOf(held []api.Held, indexes [][]int, horizon uint64) api.Waste {
	var w api.Waste
	for _, h := range held {
		if len(h.Versions) > 0 && !h.Versions[0].Gone {
			w.Live++
		}
		left, dead := chain.Prune(h.Versions, horizon)
		w.Versions += len(h.Versions)
		w.Dead += dead
		if dead == 0 || h.Intent.Txn != 0 {
			continue // while somebody is writing it a row is there, and keeps its entries
		}
		if len(left) == 0 {
			w.Rows++
		}
		// The newest stand first, so those that go are the last ones.
		goes := h.Versions[len(h.Versions)-dead:]
		for _, columns := range indexes {
			w.Entries += lost(columns, left, goes)
		}
	}
	return w
}

// lost is how many keys some versions of a row have that go, and none that is left.
func lost(columns []int, left, goes []api.Version) int {
	stay, n := keysOf(columns, left), 0
	for key := range keysOf(columns, goes) {
		if _, stays := stay[key]; !stays {
			n++
		}
	}
	return n
}

// keysOf is the keys of a row's versions in the index of some columns.
func keysOf(columns []int, l []api.Version) map[string]struct{} {
	keys := map[string]struct{}{}
	for _, v := range l {
		if v.Gone {
			continue
		}
		values := make([]api.Value, len(columns))
		for i, column := range columns {
			values[i] = v.Row[column]
		}
		if key, err := code.Encode(values); err == api.OK {
			keys[key] = struct{}{}
		}
	}
	return keys
}
