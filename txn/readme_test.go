package txn_test

import (
	"testing"

	"vellum/api"
	"vellum/lit"
	"vellum/schema"
	"vellum/txn"
)

// What README.md tells of this package, line by line.
func TestReadme(t *testing.T) {
	tab, err := schema.Parse("create table t (a int not null, b int, primary key (a), index i (b))")
	wants(t, "Parse", err, api.OK)
	d, err := txn.New([]api.Table{tab})
	wants(t, "New", err, api.OK)
	key := func(a int64) []api.Value { return []api.Value{lit.Int(a)} }
	row := func(a, b int64) []api.Value { return []api.Value{lit.Int(a), lit.Int(b)} }
	x := begin(t, d, api.LevelSnapshot)
	inserts(t, d, x, row(1, 5))
	y := begin(t, d, api.LevelSerial)
	gets(t, d, y, 1, "")
	wants(t, "Insert", d.Insert(y, 0, row(1, 6)), api.ErrBusy)
	commits(t, d, x, 1)
	wants(t, "Insert", d.Insert(y, 0, row(1, 6)), api.ErrNewer)
	inserts(t, d, y, row(2, 6))
	refusedAt(t, d, y, api.ErrSerial)
	z := begin(t, d, api.LevelCommitted)
	saves(t, d, z, 1)
	wants(t, "Update", d.Update(z, 0, key(1), row(1, 7)), api.OK)
	wants(t, "Back", d.Back(z, 1), api.OK)
	wants(t, "TryDelete", d.TryDelete(z, 0, key(1)), api.OK)
	wants(t, "Update", d.Update(z, 0, key(1), row(3, 7)), api.OK)
	sees(t, d, z, api.Scan{Index: 0, Range: api.Range{Open: true}, Most: 10}, "3 7")
	commits(t, d, z, 2)
	rowsAt(t, d, 1, "1 5")
	old := beginAt(t, d, 1)
	prunes(t, d, 2, api.Pruned{}, 1)
	aborts(t, d, old)
	prunes(t, d, 2, api.Pruned{Versions: 2, Entries: 2, Rows: 1}, 2)
	d, err = txn.Load([]api.Table{tab}, [][][]api.Value{{row(3, 7)}}, 2)
	wants(t, "Load", err, api.OK)
	rowsAt(t, d, 2, "3 7")
}
