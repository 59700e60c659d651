package vacuum_test

import (
	"fmt"
	"slices"
	"testing"

	"vellum/api"
	"vellum/txn"
	"vellum/vacuum"
)

// As many transactions as may be active: all of them hold the horizon, or each one is a commit older than the next one.
func TestMostTransactions(t *testing.T) {
	d := thrice(t)
	var l []int
	for range api.MaxTxns - 1 {
		l = append(l, beginAt(t, d, 2))
	}
	holders(t, d, l...)
	old(t, d, 1, l...)
	clears(t, d, 1, api.Pruned{Versions: 2, Entries: 2}, l...)
	l = nil
	for n := range api.MaxTxns - 1 {
		l = append(l, begin(t, d, snapshot))
		done(t, d, func(x int) { updates(t, d, x, 1, 1, n+9) })
	}
	holders(t, d, l[0])
	old(t, d, 200, l[:56]...)
	looks(t, d, api.Waste{Live: 1, Versions: 256})
	clears(t, d, 200, api.Pruned{Versions: 56, Entries: 56}, l[:56]...)
	// Another one begins where there was no room for it.
	slices.Reverse(l)
	for range 57 {
		l = append(l, begin(t, d, committed))
	}
	_, err := d.Begin(committed)
	wants(t, "Begin", err, api.ErrFull)
	clears(t, d, 2, api.Pruned{Versions: 198, Entries: 198}, reversed(l[1:199])...)
	clears(t, d, 1, api.Pruned{Versions: 1, Entries: 1}, l[0])
}

func reversed(l []int) []int {
	l = slices.Clone(l)
	slices.Reverse(l)
	return l
}

// As many tables as there may be.
func TestMostTables(t *testing.T) {
	var texts []string
	for n := range api.MaxTables {
		texts = append(texts, fmt.Sprintf("create table t%d (a int not null, primary key (a))", n))
	}
	d := made(t, texts...)
	for n := range api.MaxTables {
		done(t, d, func(x int) {
			for k := range n {
				wants(t, "Insert", d.Insert(x, n, row(k)), api.OK)
			}
		})
		done(t, d, func(x int) {
			for k := range n / 2 {
				wants(t, "Delete", d.Delete(x, n, row(k)), api.OK)
			}
		})
	}
	l, err := vacuum.Look(d)
	wants(t, "Look", err, api.OK)
	wants(t, "how many tables", len(l), api.MaxTables)
	for n, w := range l {
		gone := n / 2
		wants(t, fmt.Sprint("table ", n), w, api.Waste{Live: n - gone, Versions: n + gone, Dead: 2 * gone, Rows: gone, Entries: gone})
	}
}

// A table with as many rows as there may be, with some indexes, all of which lose a version, and an entry of each.
func TestMostRows(t *testing.T) {
	const many = 2
	text := "create table t (a int not null, b int, primary key (a)"
	for n := range many {
		text += fmt.Sprintf(", index i%d (b)", n)
	}
	rows := make([][]api.Value, api.MaxRows)
	for i := range rows {
		rows[i] = row(i, i)
	}
	d, err := txn.Load(tables(t, text+")"), [][][]api.Value{rows}, 1)
	wants(t, "Load", err, api.OK)
	for some := range slices.Chunk(rows, 4096) {
		done(t, d, func(x int) {
			for _, l := range some {
				i := int(l[0].N)
				updates(t, d, x, i, i, -i)
			}
		})
	}
	const most = api.MaxRows
	want := api.Waste{Live: most, Versions: 2 * most, Dead: most, Entries: (most - 1) * many}
	l, err := vacuum.Look(d)
	wants(t, "Look", fmt.Sprintf("%+v %d", l, err), fmt.Sprintf("%+v 0", []api.Waste{want}))
	runs(t, d, api.Pruned{Versions: want.Dead, Entries: want.Entries})
	l, err = vacuum.Look(d)
	wants(t, "Look", fmt.Sprintf("%+v %d", l, err), fmt.Sprintf("%+v 0", []api.Waste{{Live: most, Versions: most}}))
}

// A row with many versions, which a reader held, of one key or of many.
func TestMostVersions(t *testing.T) {
	d := thrice(t)
	reader := begin(t, d, snapshot)
	for n := range 20000 {
		done(t, d, func(x int) { updates(t, d, x, 1, 1, n%5000+4) })
	}
	l, err := vacuum.Look(d)
	wants(t, "Look", fmt.Sprintf("%+v %d", l, err), fmt.Sprintf("%+v 0", []api.Waste{{Live: 1, Versions: 20003, Dead: 2, Entries: 2}}))
	clears(t, d, 20001, api.Pruned{Versions: 2, Entries: 2})
	aborts(t, d, reader)
	l, err = vacuum.Look(d)
	wants(t, "Look", fmt.Sprintf("%+v %d", l, err), fmt.Sprintf("%+v 0", []api.Waste{{Live: 1, Versions: 20001, Dead: 20000, Entries: 5000}}))
	runs(t, d, api.Pruned{Versions: 20000, Entries: 5000})
}
