package vacuum_test

import (
	"slices"
	"sync"
	"sync/atomic"
	"testing"

	"vellum/api"
	"vellum/txn"
	"vellum/vacuum"
)

// beside lets writers do something side by side, and one more that looks do something again and again till they have ended.
func beside(n int, look func(), do func(i int)) {
	var writers, lookers sync.WaitGroup
	var over atomic.Bool
	lookers.Go(func() {
		for !over.Load() {
			look()
		}
	})
	for i := range n {
		writers.Go(func() { do(i) })
	}
	writers.Wait()
	over.Store(true)
	lookers.Wait()
}

// wholeLook holds what may be told at any time of one table of 4 rows at most with one index.
func wholeLook(t *testing.T, d *txn.DB) {
	l, err := vacuum.Look(d)
	if err != api.OK || len(l) != 1 {
		t.Errorf("Look: %v, error %d", l, err)
		return
	}
	w := l[0]
	if w.Live < 0 || w.Live > 4 || w.Versions < w.Live || w.Dead > w.Versions || w.Rows > 4 || w.Rows > w.Dead || w.Entries < w.Rows || w.Entries > w.Dead+w.Rows {
		t.Errorf("Look: %+v", w)
	}
}

// Vc5: readers and writers side by side with Look, Holders, Old and Run: each snapshot is told the same from its begin to its end; and nobody is aborted.
func TestRunSideBySide(t *testing.T) {
	for seed := range 4 {
		d := made(t, textT)
		beside(6, func() {
			wholeLook(t, d)
			if _, err := vacuum.Run(d); err != api.OK {
				t.Errorf("Run: error %d", err)
			}
			who, err := vacuum.Holders(d)
			if err != api.OK || !slices.IsSorted(who) {
				t.Errorf("Holders: %v, error %d", who, err)
			}
			who, err = vacuum.Old(d, 1)
			if err != api.OK || !slices.IsSorted(who) || len(who) > 6 {
				t.Errorf("Old: %v, error %d", who, err)
			}
		}, func(i int) {
			c := &chance{uint64(seed*10 + i)}
			for range 150 {
				if i%2 == 0 {
					reads(t, d, 1+c.below(4))
				} else {
					writesSome(t, d, c)
				}
			}
		})
		wants(t, "how many are active", len(d.Active()), 0)
		ranBehind(t, d)
	}
}

// reads is told the same, however often it asks; a stamp of its own is given to it by its begin.
func reads(t *testing.T, d *txn.DB, often int) {
	x, err := d.Begin(snapshot)
	if err != api.OK {
		t.Errorf("Begin: error %d", err)
		return
	}
	info, _ := d.Info(x)
	var was string
	for n := range 2 + often {
		l, err := d.Scan(x, 0, api.Scan{Index: n%2 - 1, Range: all(), Most: 99})
		rows, errAt := d.At(0, info.Snapshot)
		slices.SortFunc(l, func(a, b api.Seen) int { return a.Slot - b.Slot })
		var byRow []string
		for _, s := range l {
			byRow = append(byRow, shownRow(s.Row))
		}
		slices.Sort(byRow)
		now := shownRows(rows)
		if n == 0 {
			was = now
		}
		if err != api.OK || errAt != api.OK || now != was || len(byRow) != len(rows) {
			t.Errorf("at %d: %v, error %d, and %s, error %d, behind %s", info.Snapshot, byRow, err, now, errAt, was)
		}
	}
	if _, err := d.Commit(x); err != api.OK {
		t.Errorf("Commit: error %d", err)
	}
}

// writesSome changes few rows, and commits or aborts.
func writesSome(t *testing.T, d *txn.DB, c *chance) {
	x, err := d.Begin(1 + c.below(2))
	if err != api.OK {
		t.Errorf("Begin: error %d", err)
		return
	}
	for range 1 + c.below(3) {
		k := c.below(4)
		switch c.below(3) {
		case 0:
			d.Insert(x, 0, row(k, c.below(3)))
		case 1:
			d.Update(x, 0, row(k), row(c.below(4), c.below(3)))
		default:
			d.Delete(x, 0, row(k))
		}
	}
	if c.below(4) == 0 {
		err = d.Abort(x)
	} else {
		_, err = d.Commit(x)
	}
	if err != api.OK {
		t.Errorf("an end: error %d", err)
	}
}

// ranBehind is Vc6, behind a crowd.
func ranBehind(t *testing.T, d *txn.DB) {
	t.Helper()
	was := plainLook(t, d)[0]
	runs(t, d, api.Pruned{Versions: was.Dead, Rows: was.Rows, Entries: was.Entries})
	looks(t, d, api.Waste{Live: was.Live, Versions: was.Live})
}

// Vc4: Clears side by side with transactions that end by themselves: each one is ended once, by a Clear, which tells it, or by itself.
func TestClearSideBySide(t *testing.T) {
	d := made(t, textT)
	var begun, ended, aborted atomic.Int64
	clear := func(age uint64) {
		who, _, err := vacuum.Clear(d, age)
		if err != api.OK || !slices.IsSorted(who) {
			t.Errorf("Clear: %v, error %d", who, err)
		}
		aborted.Add(int64(len(who)))
	}
	beside(8, func() { clear(2) }, func(i int) {
		c := &chance{uint64(i)}
		for range 300 {
			level := 1 + c.below(3)
			x, err := d.Begin(level)
			if err != api.OK {
				t.Errorf("Begin: error %d", err)
				continue
			}
			begun.Add(1)
			d.Insert(x, 0, row(c.below(20), i))
			d.Delete(x, 0, row(c.below(20)))
			if c.below(20) == 0 {
				clear(1)
			}
			switch _, err := d.Commit(x); err {
			case api.OK, api.ErrSerial:
				ended.Add(1)
			case api.ErrTxn:
				if level == committed {
					t.Errorf("one that has no age was aborted")
				}
			default:
				t.Errorf("Commit: error %d", err)
			}
		}
	})
	wants(t, "how many are active", len(d.Active()), 0)
	wants(t, "how many have ended", ended.Load()+aborted.Load(), begun.Load())
	ranBehind(t, d)
}

// Vc3, Vc4: those of LevelCommitted have no age, however many commits come while they are asked for.
func TestCommittedOnesHaveNoAge(t *testing.T) {
	d := thrice(t)
	var l []int
	for range 200 {
		l = append(l, begin(t, d, committed))
	}
	beside(4, func() {
		for _, ask := range []func(*txn.DB) ([]int, api.Errno){vacuum.Holders, olderThanNobody, clearedOnes} {
			if who, err := ask(d); len(who) > 0 || err != api.OK {
				t.Errorf("%v are told, error %d", who, err)
			}
		}
	}, func(i int) {
		for n := range 400 {
			x, _ := d.Begin(committed)
			d.Insert(x, 0, row(10+i, n))
			d.Update(x, 0, row(10+i), row(10+i, n))
			if _, err := d.Commit(x); err != api.OK {
				t.Errorf("Commit: error %d", err)
			}
		}
	})
	old(t, d, 0, l...)
}

func olderThanNobody(d *txn.DB) ([]int, api.Errno) { return vacuum.Old(d, 1) }

func clearedOnes(d *txn.DB) ([]int, api.Errno) {
	l, _, err := vacuum.Clear(d, 1)
	return l, err
}
