package txn_test

import (
	"fmt"
	"testing"

	"vellum/api"
	"vellum/txn"
)

// Tx1: tables that may not be beside one another.
func TestNewRefuses(t *testing.T) {
	named := func(n int) []api.Table {
		var l []api.Table
		for i := range n {
			l = append(l, pairs(fmt.Sprintf("t%d", i)))
		}
		return l
	}
	nameless, keyless := pairs("Not"), pairs("k")
	keyless.Key = nil
	for what, c := range map[string]struct {
		tables []api.Table
		want   api.Errno
	}{
		"none":                             {nil, api.ErrTables},
		"an empty list":                    {[]api.Table{}, api.ErrTables},
		"64":                               {named(64), api.OK},
		"65":                               {named(65), api.ErrTables},
		"65, one of which may not be":      {append(named(64), nameless), api.ErrTables},
		"one that may not be":              {[]api.Table{nameless}, api.ErrName},
		"the first one that may not be":    {[]api.Table{pairs("t"), keyless, nameless}, api.ErrKeyless},
		"two of one name":                  {[]api.Table{pairs("t"), pairs("u"), wide("t")}, api.ErrTables},
		"two of one name that may not be":  {[]api.Table{nameless, nameless}, api.ErrName},
		"one name, and one that is no one": {[]api.Table{pairs("t"), pairs("t"), keyless}, api.ErrKeyless},
		"a reference to no table":          {[]api.Table{wide("w")}, api.OK},
	} {
		d, err := txn.New(c.tables)
		if err != c.want || (d != nil) != (err == api.OK) {
			t.Errorf("New of %s: %v, error %d, want error %d", what, d, err, c.want)
		}
		d, err = txn.Load(c.tables, make([][][]api.Value, len(c.tables)), 0)
		if err != c.want || (d != nil) != (err == api.OK) {
			t.Errorf("Load of %s: %v, error %d, want error %d", what, d, err, c.want)
		}
	}
}

// Tx1: a new database has no rows, nobody is active, and its frontier and its floor are 0.
func TestNew(t *testing.T) {
	d := madeOf(t, wide("w"), pairs("t"))
	wants(t, "the frontier", d.Frontier(), 0)
	wants(t, "the floor", d.Floor(), 0)
	wants(t, "the horizon", d.Horizon(), 0)
	wants(t, "the active ones", len(d.Active()), 0)
	wants(t, "the tables", fmt.Sprint(d.Tables()), fmt.Sprint([]api.Table{wide("w"), pairs("t")}))
	for n := range 2 {
		rows, err := d.At(n, 0)
		if len(rows) != 0 || err != api.OK {
			t.Fatalf("At: %v, %d", rows, err)
		}
	}
}

// Tx1: numbers rise by one, and are not given again; Active has them rising.
func TestBegin(t *testing.T) {
	d := made(t)
	for _, level := range []int{-1, 0, 4, 99} {
		x, err := d.Begin(level)
		if x != 0 || err != api.ErrLevel {
			t.Fatalf("Begin of the level %d: %d, error %d", level, x, err)
		}
	}
	for i, level := range []int{committed, snapshot, serial, serial, committed} {
		wants(t, "the number", begin(t, d, level), i+1)
	}
	wants(t, "the number of one that reads alone", beginAt(t, d, 0), 6)
	commits(t, d, 2, 0)
	aborts(t, d, 5)
	wants(t, "the active ones", fmt.Sprint(d.Active()), "[1 3 4 6]")
	wants(t, "the next number", begin(t, d, snapshot), 7)
	wants(t, "the active ones", fmt.Sprint(d.Active()), "[1 3 4 6 7]")
	for _, x := range []int{2, 5, 0, -1, 8} {
		wants(t, "Abort of one that is not active", d.Abort(x), api.ErrTxn)
	}
}

// Tx1: MaxTxns may be active, of any levels; what is refused takes no number.
func TestBeginFull(t *testing.T) {
	d := made(t)
	for i := range 256 {
		if i%4 == 3 {
			beginAt(t, d, 0)
		} else {
			begin(t, d, 1+i%4)
		}
	}
	for level := range 5 {
		want := api.ErrFull
		if level < committed || level > serial {
			want = api.ErrLevel
		}
		_, err := d.Begin(level)
		wants(t, "one more", err, want)
	}
	_, err := d.BeginAt(0)
	wants(t, "one more that reads alone", err, api.ErrFull)
	_, err = d.BeginAt(1)
	wants(t, "one more at no stamp", err, api.ErrArg)
	wants(t, "how many are active", len(d.Active()), 256)
	aborts(t, d, 100)
	wants(t, "the next number", begin(t, d, serial), 257)
	_, err = d.Begin(serial)
	wants(t, "one more", err, api.ErrFull)
	commits(t, d, 257, 0)
	wants(t, "the next number", beginAt(t, d, 0), 258)
}

// Tx1: who reads alone reads at its stamp, from the floor to the frontier.
func TestBeginAt(t *testing.T) {
	d := two(t)
	done(t, d, func(x int) { updates(t, d, x, 1, pair(1, 7)) })
	done(t, d, func(x int) { deletes(t, d, x, 2) })
	for stamp, want := range []string{"", "1 0, 2 0", "1 7, 2 0", "1 7"} {
		x := beginAt(t, d, uint64(stamp))
		sees(t, d, x, by(-1), want)
		infoIs(t, d, x, api.Info{Level: snapshot, Snapshot: uint64(stamp), Reads: true})
		done(t, d, func(y int) { inserts(t, d, y, pair(9, 9)) })
		sees(t, d, x, by(-1), want)
		commits(t, d, x, uint64(stamp))
		done(t, d, func(y int) { deletes(t, d, y, 9) })
	}
	_, err := d.BeginAt(d.Frontier() + 1)
	wants(t, "above the frontier", err, api.ErrArg)
	_, err = d.BeginAt(1 << 63)
	wants(t, "above all stamps", err, api.ErrArg)
	d.Prune(3)
	x, err := d.BeginAt(2)
	if x != 0 || err != api.ErrLow {
		t.Fatalf("below the floor: %d, error %d", x, err)
	}
	sees(t, d, beginAt(t, d, 3), by(-1), "1 7")
}

// Tx2 to Tx4: who reads alone does nothing else.
func TestReadsAlone(t *testing.T) {
	d := two(t)
	x := beginAt(t, d, 1)
	was := state(t, d)
	for what, err := range map[string]api.Errno{
		"Insert":             d.Insert(x, 0, pair(3, 3)),
		"Update":             d.Update(x, 0, key(1), pair(1, 3)),
		"Delete":             d.Delete(x, 0, key(1)),
		"TryInsert":          d.TryInsert(x, 0, pair(3, 3)),
		"TryUpdate":          d.TryUpdate(x, 0, key(1), pair(1, 3)),
		"TryDelete":          d.TryDelete(x, 0, key(1)),
		"Insert of no table": d.Insert(x, 7, nil),
		"Update of nothing":  d.Update(x, 0, nil, nil),
	} {
		wants(t, what, err, api.ErrReads)
	}
	n, err := d.Save(x)
	if n != 0 || err != api.ErrReads {
		t.Fatalf("Save: %d, error %d", n, err)
	}
	wants(t, "Back", d.Back(x, 1), api.ErrSave)
	wants(t, "Release", d.Release(x, 0), api.ErrSave)
	gets(t, d, x, 1, "1 0")
	footIs(t, d, x, api.Foot{})
	wants(t, "the state", state(t, d), was)
	aborts(t, d, x)
	wants(t, "the active ones", len(d.Active()), 0)
}

// Of a DB that New and Load did not give: ErrArg, nothing, 0.
func TestOfNoDatabase(t *testing.T) {
	for what, d := range map[string]*txn.DB{"nil": nil, "the zero one": {}} {
		for call, err := range errorsOf(d, 1) {
			wants(t, call+" of "+what, err, api.ErrArg)
		}
		if d.Active() != nil || d.Tables() != nil || d.Frontier() != 0 || d.Floor() != 0 || d.Horizon() != 0 {
			t.Errorf("%s tells something", what)
		}
	}
}

// errorsOf is what all calls that may be refused are told, with arguments that are all right.
func errorsOf(d *txn.DB, x int) map[string]api.Errno {
	l := map[string]api.Errno{
		"Insert":    d.Insert(x, 0, pair(5, 5)),
		"Update":    d.Update(x, 0, key(1), pair(1, 5)),
		"Delete":    d.Delete(x, 0, key(1)),
		"TryInsert": d.TryInsert(x, 0, pair(5, 5)),
		"TryUpdate": d.TryUpdate(x, 0, key(1), pair(1, 5)),
		"TryDelete": d.TryDelete(x, 0, key(1)),
		"Back":      d.Back(x, 1),
		"Release":   d.Release(x, 1),
		"Abort":     d.Abort(x),
	}
	_, l["Begin"] = d.Begin(snapshot)
	_, l["BeginAt"] = d.BeginAt(0)
	_, _, l["Get"] = d.Get(x, 0, key(1))
	_, l["Scan"] = d.Scan(x, 0, by(-1))
	_, l["Save"] = d.Save(x)
	_, l["Commit"] = d.Commit(x)
	_, l["Info"] = d.Info(x)
	_, l["Foot"] = d.Foot(x)
	_, l["Latest"] = d.Latest(0, -1, all())
	_, l["Entries"] = d.Entries(0, -1, all())
	_, l["At"] = d.At(0, 0)
	_, l["Prune"] = d.Prune(0)
	return l
}

// ErrTxn is the first one that calls of a transaction are told.
func TestOfNoTransaction(t *testing.T) {
	d := two(t)
	ended := begin(t, d, serial)
	commits(t, d, ended, 1)
	was := state(t, d)
	for _, x := range []int{ended, 1, 0, -1, 99, many, -many - 1} {
		l := errorsOf(d, x)
		for _, call := range []string{"Begin", "BeginAt", "Latest", "Entries", "At", "Prune"} {
			wants(t, call, l[call], api.OK)
			delete(l, call)
		}
		for call, err := range l {
			wants(t, call, err, api.ErrTxn)
		}
		for _, y := range d.Active() {
			aborts(t, d, y)
		}
		_, _, err := d.Get(x, 9, nil)
		wants(t, "Get of no table", err, api.ErrTxn)
		_, err = d.Scan(x, 9, by(9))
		wants(t, "Scan of no table", err, api.ErrTxn)
		wants(t, "Insert into no table", d.Insert(x, 9, nil), api.ErrTxn)
		wants(t, "the state", state(t, d), was)
	}
}
