package vacuum_test

import (
	"testing"

	"vellum/api"
	"vellum/lit"
	"vellum/txn"
	"vellum/vacuum"
)

// loaded is a database with rows of the one table at a stamp.
func loaded(t *testing.T, stamp uint64, rows ...[]api.Value) *txn.DB {
	t.Helper()
	d, err := txn.Load(tables(t, textT), [][][]api.Value{rows}, stamp)
	if d == nil || err != api.OK {
		t.Fatalf("Load: %v, error %d", d, err)
	}
	return d
}

// Vc4: Run takes up to the horizon, which is the floor then.
func TestRun(t *testing.T) {
	d := thrice(t)
	reader := beginAt(t, d, 2)
	begin(t, d, committed)
	wants(t, "the floor", d.Floor(), 0)
	runs(t, d, api.Pruned{Versions: 1, Entries: 1})
	wants(t, "the floor", d.Floor(), 2)
	gets(t, d, reader, 1, "1 2")
	commits(t, d, reader)
	runs(t, d, api.Pruned{Versions: 1, Entries: 1})
	wants(t, "the floor", d.Floor(), 3)
	runs(t, d, api.Pruned{})
	wants(t, "the floor", d.Floor(), 3)
	runs(t, made(t, textT), api.Pruned{})
}

// Vc4: Clear aborts who is as old as that, or older, with what he wrote, and nobody else.
func TestClear(t *testing.T) {
	d := made(t, textT)
	a := begin(t, d, serial)
	inserts(t, d, a, 9, 9)
	b := begin(t, d, committed)
	inserts(t, d, b, 8, 8)
	done(t, d, func(x int) { inserts(t, d, x, 1, 1) })
	c := begin(t, d, snapshot)
	done(t, d, func(x int) { updates(t, d, x, 1, 1, 2) })
	e := begin(t, d, snapshot)
	done(t, d, func(x int) { updates(t, d, x, 1, 1, 3) })
	f, g := begin(t, d, serial), beginAt(t, d, 0)
	clears(t, d, 4, api.Pruned{})
	clears(t, d, 2, api.Pruned{Versions: 1, Entries: 1}, a, c, g)
	for _, x := range []int{a, c, g} {
		wants(t, "Abort", d.Abort(x), api.ErrTxn)
	}
	gets(t, d, e, 1, "1 2")
	gets(t, d, f, 1, "1 3")
	gets(t, d, b, 1, "1 3")
	gets(t, d, b, 9, "")
	done(t, d, func(x int) { inserts(t, d, x, 9, 1) })
	clears(t, d, 1, api.Pruned{Versions: 1, Entries: 1}, e, f)
	clears(t, d, 1, api.Pruned{})
	commits(t, d, b)
	clears(t, d, 1<<63, api.Pruned{})
	looks(t, d, api.Waste{Live: 3, Versions: 3})
}

// Vc4: what those wrote that are aborted is swept by that, and not counted.
func TestClearCountsWhatRunTook(t *testing.T) {
	d := thrice(t)
	x := begin(t, d, snapshot)
	updates(t, d, x, 1, 1, 7)
	inserts(t, d, x, 2, 7)
	done(t, d, func(x int) { inserts(t, d, x, 3, 7) })
	clears(t, d, 1, api.Pruned{Versions: 2, Entries: 2}, x)
	looks(t, d, api.Waste{Live: 2, Versions: 2})
}

// Vc4: the age 0 is refused, and nothing is done.
func TestClearOfNoAge(t *testing.T) {
	d := thrice(t)
	begin(t, d, snapshot)
	begin(t, d, committed)
	was := state(t, d)
	l, p, err := vacuum.Clear(d, 0)
	if len(l) != 0 || p != (api.Pruned{}) || err != api.ErrArg {
		t.Fatalf("Clear of 0: %v, %+v, error %d", l, p, err)
	}
	wants(t, "the state", state(t, d), was)
}

// All calls, of a database that nobody made, and of none.
func TestNoDatabase(t *testing.T) {
	for _, d := range []*txn.DB{nil, {}} {
		l, err := vacuum.Look(d)
		if len(l) != 0 || err != api.ErrArg {
			t.Fatalf("Look: %v, error %d", l, err)
		}
		who, err := vacuum.Holders(d)
		if len(who) != 0 || err != api.ErrArg {
			t.Fatalf("Holders: %v, error %d", who, err)
		}
		for _, age := range []uint64{0, 1, 1 << 63} {
			who, err = vacuum.Old(d, age)
			if len(who) != 0 || err != api.ErrArg {
				t.Fatalf("Old: %v, error %d", who, err)
			}
			who, p, err := vacuum.Clear(d, age)
			if len(who) != 0 || p != (api.Pruned{}) || err != api.ErrArg {
				t.Fatalf("Clear: %v, %+v, error %d", who, p, err)
			}
		}
		p, err := vacuum.Run(d)
		if p != (api.Pruned{}) || err != api.ErrArg {
			t.Fatalf("Run: %+v, error %d", p, err)
		}
	}
}

// Vc5: Run changes nothing that an active one is told; and behind it nothing more would be taken, till somebody does something.
func TestNothingReadGoes(t *testing.T) {
	d := made(t, textT)
	for n := range 12 {
		done(t, d, func(x int) {
			if n == 0 {
				inserts(t, d, x, 1, 0)
			}
			updates(t, d, x, 1, 1, n)
			if n%3 == 0 {
				deletes(t, d, x, 1)
				inserts(t, d, x, 1, n)
			}
		})
		if n%4 == 2 {
			begin(t, d, one(&chance{uint64(n)}, snapshot, serial))
		}
	}
	was, seen := told(t, d), scans(t, d)
	runs(t, d, api.Pruned{Versions: 2, Entries: 2})
	wants(t, "what is told", told(t, d)+scans(t, d), was+seen)
	looks(t, d, api.Waste{Live: 1, Versions: 10})
	aborts(t, d, d.Active()[0])
	looks(t, d, api.Waste{Live: 1, Versions: 10, Dead: 4, Entries: 4})
}

// scans is what all that are active, and read at a snapshot, are told by all indexes.
func scans(t *testing.T, d *txn.DB) string {
	t.Helper()
	var s string
	for _, x := range d.Active() {
		info, _ := d.Info(x)
		if info.Level == serial {
			continue // it would note what it reads
		}
		for n, tab := range d.Tables() {
			for index := -1; index < len(tab.Indexes); index++ {
				l, err := d.Scan(x, n, api.Scan{Index: index, Range: all(), Most: 1 << 20})
				wants(t, "Scan", err, api.OK)
				for _, seen := range l {
					s += shownRow(seen.Row) + ", "
				}
				s += "; "
			}
		}
	}
	return s
}

// Vc6: if nobody is active each row has the one version that is seen, and each index one entry for it.
func TestNobodyIsActive(t *testing.T) {
	d := made(t, "create table t (a int not null, b text, primary key (a), index i (b), unique index j (b, a))")
	c := &chance{3}
	for range 200 {
		x := begin(t, d, 1+c.below(3))
		for range c.below(4) {
			switch k := c.below(9); c.below(3) {
			case 0:
				d.Insert(x, 0, row(k, one(c, "x", "y", "z")))
			case 1:
				d.Update(x, 0, row(k), row(c.below(9), one[any](c, "x", nil)))
			default:
				d.Delete(x, 0, row(k))
			}
		}
		if c.below(4) == 0 {
			aborts(t, d, x)
		} else {
			commits(t, d, x)
		}
	}
	rows := rowsAt(t, d, 0, d.Frontier())
	if len(rows) == 0 {
		t.Fatal("no row is left")
	}
	_, err := vacuum.Run(d)
	wants(t, "Run", err, api.OK)
	for n, h := range heldOf(t, d, 0) {
		if len(h.Versions) != 1 || h.Versions[0].Gone || h.Intent.Txn != 0 {
			t.Fatalf("slot %d: %+v", h.Slot, h)
		}
		wants(t, "a row", shownRow(h.Versions[0].Row), shownRow(rows[n]))
	}
	for index := -1; index < 2; index++ {
		hits, err := d.Entries(0, index, all())
		if len(hits) != len(rows) || err != api.OK {
			t.Fatalf("the index %d has %d entries, error %d, of %d rows", index, len(hits), err, len(rows))
		}
	}
	looks(t, d, api.Waste{Live: len(rows), Versions: len(rows)})
}

// Vc7: when all who hold it have ended the horizon is greater; and behind Clear nobody is that old.
func TestTheHorizonRises(t *testing.T) {
	d := thrice(t)
	for n := range 20 {
		switch n % 4 {
		case 0:
			beginAt(t, d, d.Floor())
		case 1:
			begin(t, d, serial)
		case 2:
			begin(t, d, snapshot)
		}
		done(t, d, func(x int) { updates(t, d, x, 1, 1, n) })
	}
	for ended := 0; ; ended++ {
		l, err := vacuum.Holders(d)
		wants(t, "Holders", err, api.OK)
		if len(l) == 0 {
			wants(t, "the horizon", d.Horizon(), d.Frontier())
			wants(t, "how often somebody held it", ended, 11)
			break
		}
		was := d.Horizon()
		for n, x := range l {
			wants(t, "the horizon", d.Horizon(), was)
			if n%2 == 0 {
				aborts(t, d, x)
			} else {
				commits(t, d, x)
			}
		}
		if d.Horizon() <= was {
			t.Fatalf("the horizon is %d behind %d", d.Horizon(), was)
		}
	}
	for range 9 {
		begin(t, d, snapshot)
		done(t, d, func(x int) { deletes(t, d, x, 1) })
		done(t, d, func(x int) { inserts(t, d, x, 1, 1) })
	}
	for age := uint64(20); age > 0; age-- {
		l, _, err := vacuum.Clear(d, age)
		wants(t, "Clear", err, api.OK)
		wants(t, "how many were that old", len(l), map[bool]int{true: 1}[age < 19 && age%2 == 0])
		old(t, d, age)
	}
	wants(t, "how many are active", len(d.Active()), 0)
}

// A row's longest key, which no version behind it has, goes by its whole.
func TestLongestKeys(t *testing.T) {
	d := made(t, "create table t (a int not null, b text, primary key (a), index i (b))")
	long := make([]byte, 1019)
	for i := range long {
		long[i] = 'x'
	}
	done(t, d, func(x int) { inserts(t, d, x, 1, lit.Text(string(long))) })
	done(t, d, func(x int) { updates(t, d, x, 1, 1, lit.Text(string(long[1:]))) })
	looks(t, d, api.Waste{Live: 1, Versions: 2, Dead: 1, Entries: 1})
	runs(t, d, api.Pruned{Versions: 1, Entries: 1})
}
