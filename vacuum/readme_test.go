package vacuum_test

import (
	"fmt"
	"testing"

	"vellum/api"
	"vellum/lit"
	"vellum/schema"
	"vellum/txn"
	"vellum/vacuum"
)

// What README.md tells of this package, line by line.
func TestReadme(t *testing.T) {
	t1, err := schema.Parse("create table t (a int not null, b int, primary key (a), index i (b))")
	wants(t, "Parse", err, api.OK)
	d, err := txn.Load([]api.Table{t1}, [][][]api.Value{{row(1, 0), row(2, 0)}}, 1)
	wants(t, "Load", err, api.OK)
	key := func(a int64) []api.Value { return []api.Value{lit.Int(a)} }
	old, err := d.Begin(api.LevelSnapshot)
	wants(t, "Begin", err, api.OK)
	for b := range 2 {
		x, err := d.Begin(api.LevelCommitted)
		wants(t, "Begin", err, api.OK)
		wants(t, "Update", d.Update(x, 0, key(1), row(1, b+1)), api.OK)
		_, err = d.Commit(x)
		wants(t, "Commit", err, api.OK)
	}
	l, err := vacuum.Look(d)
	wants(t, "Look", fmt.Sprint(l, err), fmt.Sprint([]api.Waste{{Live: 2, Versions: 4}}, api.OK))
	who, err := vacuum.Holders(d)
	wants(t, "Holders", fmt.Sprint(who, err), fmt.Sprint([]int{old}, api.OK))
	who, err = vacuum.Old(d, 3)
	wants(t, "Old", fmt.Sprint(who, err), fmt.Sprint([]int{}, api.OK))
	went, err := vacuum.Run(d)
	wants(t, "Run", fmt.Sprint(went, err), fmt.Sprint(api.Pruned{}, api.OK))
	who, went, err = vacuum.Clear(d, 2)
	wants(t, "Clear", fmt.Sprint(who, went, err), fmt.Sprint([]int{old}, api.Pruned{Versions: 2, Entries: 2}, api.OK))
	l, err = vacuum.Look(d)
	wants(t, "Look", fmt.Sprint(l, err), fmt.Sprint([]api.Waste{{Live: 2, Versions: 2}}, api.OK))
	due, err := vacuum.Due([]api.Waste{{Live: 100, Dead: 70}, {Live: 100, Dead: 71}}, 50, 200)
	wants(t, "Due", fmt.Sprint(due, err), fmt.Sprint([]int{1}, api.OK))
}
