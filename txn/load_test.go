package txn_test

import (
	"fmt"
	"testing"

	"vellum/api"
	"vellum/lit"
	"vellum/txn"
)

// Tx8: a database with rows, each as a version with the stamp, which is its frontier and its floor.
func TestLoad(t *testing.T) {
	tables := []api.Table{pairs("t"), wide("w"), pairs("u")}
	w := []api.Value{lit.Bits(1 << 63), lit.Null(), lit.Text("c"), lit.Text("d")}
	d, err := txn.Load(tables, [][][]api.Value{{pair(5, 1), pair(2, 1), pair(9, 0)}, {w}, nil}, 7)
	wants(t, "Load", err, api.OK)
	wants(t, "the frontier", d.Frontier(), 7)
	wants(t, "the floor", d.Floor(), 7)
	wants(t, "the horizon", d.Horizon(), 7)
	wants(t, "the active ones", len(d.Active()), 0)
	wants(t, "the tables", fmt.Sprint(d.Tables()), fmt.Sprint(tables))
	rowsAt(t, d, 7, "2 1, 5 1, 9 0")
	entries(t, d, -1, "2: 1, 5: 0, 9: 2")
	entries(t, d, 0, "0 9: 2, 1 2: 1, 1 5: 0")
	l, err := d.Latest(1, 1, all())
	wants(t, "Latest", err, api.OK)
	wants(t, "what is there", shownHeld(l), "slot 0: "+shownRow(w)+"@7")
	_, err = d.At(0, 6)
	wants(t, "At below", err, api.ErrLow)
	_, err = d.BeginAt(6)
	wants(t, "BeginAt below", err, api.ErrLow)
	x := begin(t, d, serial)
	wants(t, "the first number", x, 1)
	updates(t, d, x, 2, pair(2, 3))
	infoIs(t, d, x, api.Info{Level: serial, Snapshot: 7, Writes: 1})
	commits(t, d, x, 8)
	rowsAt(t, d, 7, "2 1, 5 1, 9 0")
	rowsAt(t, d, 8, "2 3, 5 1, 9 0")
}

// Tx8: what is refused, in which order: of all tables, of the lists, and then row by row.
func TestLoadRefuses(t *testing.T) {
	tables := []api.Table{pairs("t"), pairs("u")}
	one, bad := [][]api.Value{pair(1, 1)}, [][]api.Value{pair(1, 1), {lit.Null(), lit.Null()}}
	for what, c := range map[string]struct {
		tables []api.Table
		rows   [][][]api.Value
		stamp  uint64
		want   api.Errno
	}{
		"no tables":                       {nil, nil, 1, api.ErrTables},
		"tables of one name, and no rows": {[]api.Table{pairs("t"), pairs("t")}, nil, 1, api.ErrTables},
		"too few lists":                   {tables, [][][]api.Value{one}, 1, api.ErrArg},
		"too many lists":                  {tables, [][][]api.Value{one, one, nil}, 1, api.ErrArg},
		"no lists":                        {tables, nil, 0, api.ErrArg},
		"rows at 0":                       {tables, [][][]api.Value{nil, one}, 0, api.ErrArg},
		"bad rows at 0":                   {tables, [][][]api.Value{nil, bad}, 0, api.ErrArg},
		"no rows at 0":                    {tables, [][][]api.Value{nil, {}}, 0, api.OK},
		"a stamp above all":               {tables, [][][]api.Value{nil, nil}, 1<<62 + 1, api.ErrArg},
		"the last stamp":                  {tables, [][][]api.Value{one, one}, 1 << 62, api.OK},
		"a row that may not be":           {tables, [][][]api.Value{one, bad}, 1, api.ErrNull},
		"a row that is too short":         {tables, [][][]api.Value{{key(1)}, bad}, 1, api.ErrArg},
		"one key twice":                   {tables, [][][]api.Value{one, {pair(1, 1), pair(2, 1), pair(1, 5)}}, 1, api.ErrExists},
		"one key twice, and a bad row":    {tables, [][][]api.Value{{pair(1, 1), pair(1, 5)}, bad}, 1, api.ErrExists},
		"a bad row ahead of one key":      {tables, [][][]api.Value{bad, {pair(1, 1), pair(1, 5)}}, 1, api.ErrNull},
		"one key in two tables":           {tables, [][][]api.Value{one, one}, 1, api.OK},
	} {
		d, err := txn.Load(c.tables, c.rows, c.stamp)
		if err != c.want || (d != nil) != (err == api.OK) {
			t.Errorf("Load of %s: %v, error %d, want error %d", what, d, err, c.want)
		}
		if err == api.OK {
			wants(t, "the frontier", d.Frontier(), c.stamp)
		}
	}
}

// Tx8: as many rows as may be, and one more: what is refused of that one row ahead of ErrFull, too.
func TestLoadFull(t *testing.T) {
	tab := pairs("t")
	tab.Indexes = nil
	rows := make([][]api.Value, 1<<16)
	for i := range rows {
		rows[i] = pair(int64(i), 0)
	}
	load := func(more ...[]api.Value) api.Errno {
		_, err := txn.Load([]api.Table{tab}, [][][]api.Value{append(rows[:len(rows):len(rows)], more...)}, 1)
		return err
	}
	wants(t, "65537 rows", load(pair(-1, 0)), api.ErrFull)
	wants(t, "one key twice behind 65536", load(pair(9, 0)), api.ErrExists)
	wants(t, "a bad row behind 65536", load(nil), api.ErrArg)
	wants(t, "65536 rows", load(), api.OK)
}

// Tx8: what At tells, loaded at its stamp, is the same database for all that comes behind it.
func TestLoadOfWhatWas(t *testing.T) {
	d := two(t)
	done(t, d, func(x int) { updates(t, d, x, 1, pair(1, 5)); inserts(t, d, x, pair(0, 5)) })
	rows, err := d.At(0, 2)
	wants(t, "At", err, api.OK)
	again, err := txn.Load(d.Tables(), [][][]api.Value{rows}, 2)
	wants(t, "Load", err, api.OK)
	for _, each := range []*txn.DB{d, again} {
		done(t, each, func(x int) { deletes(t, each, x, 1); updates(t, each, x, 0, pair(7, 5)) })
		rowsAt(t, each, 2, "0 5, 1 5, 2 0")
		rowsAt(t, each, 3, "2 0, 7 5")
		each.Prune(3)
		l, err := each.Entries(0, 0, all())
		wants(t, "Entries", err, api.OK)
		wants(t, "how many entries", len(l), 2)
	}
}
