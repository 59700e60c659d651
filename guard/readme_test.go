package guard_test

import (
	"testing"

	"vellum/api"
	"vellum/guard"
	"vellum/lit"
	"vellum/schema"
)

// What README.md tells of this package, line by line.
func TestReadme(t *testing.T) {
	t1, err := schema.Parse("create table t (a int not null, b int, primary key (a), unique index i (b))")
	wants(t, "Parse", err, api.OK)
	t2, err := schema.Parse("create table u (c int not null, d int, primary key (c), foreign key (d) references t)")
	wants(t, "Parse", err, api.OK)
	g, err := guard.New([]api.Table{t1, t2})
	wants(t, "New", err, api.OK)
	row := func(a, b int64) []api.Value { return []api.Value{lit.Int(a), lit.Int(b)} }
	key := func(a int64) []api.Value { return []api.Value{lit.Int(a)} }
	x, err := g.DB().Begin(api.LevelSerial)
	wants(t, "Begin", err, api.OK)
	y, err := g.DB().Begin(api.LevelSnapshot)
	wants(t, "Begin", err, api.OK)
	insert(t, g, x, 0, row(1, 5), ok)
	insert(t, g, x, 0, row(2, 5), unique(api.ErrUnique, 0, 0))
	insert(t, g, y, 0, row(2, 5), unique(api.ErrBusy, 0, 0))
	insert(t, g, x, 1, row(1, 9), out(api.ErrForeign, 1, 0))
	insert(t, g, x, 1, row(1, 1), ok)
	stamp, err := g.DB().Commit(x)
	wants(t, "Commit", err, api.OK)
	wants(t, "the stamp", stamp, 1)
	insert(t, g, y, 0, row(2, 5), unique(api.ErrUnique, 0, 0))
	z, err := g.DB().Begin(api.LevelCommitted)
	wants(t, "Begin", err, api.OK)
	remove(t, g, z, 0, key(1), in(api.ErrForeign, 1, 0))
	update(t, g, z, 1, key(1), []api.Value{lit.Int(1), lit.Null()}, ok)
	remove(t, g, z, 0, key(1), ok)
	stamp, err = g.DB().Commit(z)
	wants(t, "Commit", err, api.OK)
	wants(t, "the stamp", stamp, 2)
	brokenIs(t, g, 1, 1)
	g, err = guard.Over(g.DB())
	wants(t, "Over", err, api.OK)
	brokenIs(t, g, 1, 2)
}
