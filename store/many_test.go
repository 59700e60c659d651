package store_test

import (
	"math"
	"runtime"
	"slices"
	"sync"
	"sync/atomic"
	"testing"

	"vellum/api"
	"vellum/lit"
)

// together runs so many workers at one time, which all begin when the last one is there.
func together(workers int, work func(worker int)) {
	var ready, all sync.WaitGroup
	ready.Add(workers)
	for w := range workers {
		all.Go(func() {
			ready.Done()
			ready.Wait()
			work(w)
		})
	}
	all.Wait()
}

// beside runs one thing again and again, while another one runs once.
func beside(again func(turn uint64), once func()) {
	var stop atomic.Bool
	var other sync.WaitGroup
	other.Go(func() {
		for turn := uint64(0); !stop.Load(); turn++ {
			again(turn)
			if turn%64 == 0 {
				runtime.Gosched()
			}
		}
	})
	once()
	stop.Store(true)
	other.Wait()
}

// So2: many add at one time till it is full: each slot is told once, rising to each one; all others are told ErrFull; and each row is its adder's.
func TestManyAdd(t *testing.T) {
	for _, most := range []int{1, 63, 300} {
		for range 20 {
			s := newStore(t, most)
			var lists [16][]int
			together(len(lists), func(w int) {
				txn := 1 + w%12 // some are one transaction's
				slot, err := s.Add(txn, on(0, int64(w)))
				for ; err == api.OK; slot, err = s.Add(txn, on(0, int64(w))) {
					if l := lists[w]; len(l) > 0 && l[len(l)-1] >= slot {
						t.Errorf("slot %d behind %v", slot, l)
					}
					lists[w] = append(lists[w], slot)
				}
				if err != api.ErrFull || slot != 0 {
					t.Errorf("Add = %d, %d, want ErrFull", slot, err)
				}
			})
			all := 0
			for w, l := range lists {
				for _, slot := range l {
					all++
					sees(t, s, slot, 1+w%12, 0, shownRow(false, row(int64(w))))
				}
			}
			if l := s.Slots(); all != most || len(l) != most || l[most-1] != most-1 {
				t.Fatalf("%d were added, %d are there, want %d", all, len(l), most)
			}
			for txn := range 12 {
				n := len(lists[txn])
				if txn < 4 {
					n += len(lists[txn+12])
				}
				settled(t, s, txn+1, 5, n)
			}
		}
	}
}

// So2, So4: rows that come and go: no two are in a slot at one time, and the least one is taken: 8 that have 3 rows each, at most, never come above slot 23; Back tells just what was added.
func TestManyAddAndBack(t *testing.T) {
	for _, size := range [][2]int{{4, 1}, {8, 3}, {16, 20}} {
		s := newStore(t, size[0]*size[1]+5)
		owner := make([]atomic.Int64, size[0]*size[1])
		together(size[0], func(w int) {
			for turn := range 600 {
				var held []int
				for range 1 + turn%size[1] {
					slot, err := s.Add(w+1, on(0, int64(w)))
					if err != api.OK || slot >= len(owner) {
						t.Errorf("Add = %d, %d, with %d rows at most", slot, err, len(owner))
						return
					}
					if !owner[slot].CompareAndSwap(0, int64(w+1)) {
						t.Errorf("slot %d is taken twice", slot)
					}
					held = append(held, slot)
				}
				for _, slot := range held {
					owner[slot].Store(0)
				}
				slices.Sort(held)
				if gone := s.Back(w+1, 0); !slices.Equal(gone, held) {
					t.Errorf("Back = %v, want %v", gone, held)
				}
			}
		})
		if l := s.Slots(); len(l) != 0 {
			t.Errorf("Slots = %v", l)
		}
	}
}

// So2, So5, So6: rows that are settled, taken away and pruned by another one, while many add: each slot is one row's at a time, and never more are there than can be.
func TestManyAddBesidePrune(t *testing.T) {
	const workers, often = 8, 400
	s := newStore(t, workers*often)
	var now atomic.Uint64
	var went atomic.Int64
	pruned := func() {
		n, gone := s.Prune(math.MaxUint64)
		went.Add(int64(n))
		if n > 0 && 2*len(gone) > n || !slices.IsSorted(gone) {
			t.Errorf("Prune = %d, %v", n, gone)
		}
	}
	beside(func(uint64) { pruned() }, func() {
		together(workers, func(w int) {
			txn := w + 1
			for n := range often {
				slot, err := s.Add(txn, on(0, int64(n)))
				if err != api.OK {
					t.Errorf("Add: %d", err)
					return
				}
				if in := s.Intent(slot); in.Txn != txn || in.Writes[0].Row[0].N != int64(n) || len(s.Versions(slot)) != 0 {
					t.Errorf("row %d of %d is %v", slot, txn, in)
				}
				stamp := now.Add(1)
				if n, err := s.Settle(txn, stamp); n != 1 || err != api.OK {
					t.Errorf("Settle = %d, %d", n, err)
				}
				if err := s.Write(slot, txn, goneOn(0), stamp); err != api.OK {
					t.Errorf("Write = %d", err)
				}
				if n, err := s.Settle(txn, now.Add(1)); n != 1 || err != api.OK {
					t.Errorf("Settle = %d, %d", n, err)
				}
			}
		})
	})
	pruned()
	if n := went.Load(); n != 2*workers*often || len(s.Slots()) != 0 {
		t.Errorf("%d versions went, want %d; Slots = %v", n, 2*workers*often, s.Slots())
	}
}

// So2: of many that write one row as of one snapshot, one alone is let; when that one has settled, all others are told that there is a newer version.
func TestManyWriteOneRow(t *testing.T) {
	for turn := range 300 {
		s := newStore(t, 1)
		added(t, s, 1, on(0, 0), 0)
		settled(t, s, 1, 5, 1)
		var won atomic.Int64
		together(8, func(w int) {
			err := s.Write(0, w+1, on(0, int64(w)), 5)
			switch {
			case err == api.OK && !won.CompareAndSwap(0, int64(w+1)):
				t.Errorf("turn %d: two are let", turn)
			case err == api.OK && turn%2 == 0:
				if n, err := s.Settle(w+1, 6); n != 1 || err != api.OK {
					t.Errorf("Settle = %d, %d", n, err)
				}
			case err == api.ErrNewer && turn%2 == 1:
				t.Errorf("turn %d: ErrNewer, and nobody has settled", turn)
			case err != api.OK && err != api.ErrBusy && err != api.ErrNewer:
				t.Errorf("Write = %d", err)
			}
		})
		winner := won.Load()
		sees(t, s, 0, int(winner), 6, shownRow(false, row(winner-1)))
		want := api.ErrNewer
		if turn%2 == 1 {
			want = api.ErrBusy
		}
		wants(t, "Write behind all", s.Write(0, 99, on(0, 1), 5), want)
	}
}

// So2, So5, So7: no update is lost: who has a row alone sees its newest version, and settles the next.
func TestManyCount(t *testing.T) {
	const workers, often, rows = 8, 500, 3
	s := newStore(t, rows)
	for slot := range rows {
		added(t, s, 1, on(0, 0), slot)
	}
	settled(t, s, 1, 1, rows)
	var now atomic.Uint64
	now.Store(1)
	var done [rows]atomic.Int64
	count := func(w, slot int) bool {
		txn := w + 1
		switch err := s.Write(slot, txn, goneOn(0), math.MaxUint64); err {
		case api.OK:
		case api.ErrBusy:
			return false
		default:
			t.Errorf("Write = %d", err)
		}
		newest := s.Versions(slot)[0]
		if err := s.Write(slot, txn, on(0, newest.Row[0].N+1), 0); err != api.OK {
			t.Errorf("Write = %d", err)
		}
		if n, err := s.Settle(txn, now.Add(1)); n != 1 || err != api.OK {
			t.Errorf("Settle = %d, %d", n, err)
		}
		done[slot].Add(1)
		return true
	}
	floors := func(turn uint64) {
		if turn%8 == 0 {
			s.Prune(now.Load() - min(now.Load(), 20))
		}
	}
	beside(floors, func() {
		together(workers, func(w int) {
			for n := 0; n < often; {
				if count(w, (n+w)%rows) {
					n++
				} else {
					runtime.Gosched()
				}
			}
		})
	})
	for slot := range rows {
		sees(t, s, slot, 0, math.MaxUint64, shownRow(false, row(done[slot].Load())))
	}
}

// twins is a row whose values are one number twice: it shows whether a row is told whole.
func twins(level int, n int64) api.Write {
	return api.Write{Level: level, Row: []api.Value{lit.Int(n), lit.Int(n)}}
}

// So3, So7: readers beside a writer, and beside Prune: at each stamp, from the floor on, what was committed there is seen, whole, and nothing that is not settled.
func TestReadersBesideAWriter(t *testing.T) {
	const last = 4000
	s := newStore(t, 1)
	added(t, s, 1, twins(0, 1), 0)
	settled(t, s, 1, 1, 1)
	var now, floor atomic.Uint64
	now.Store(1)
	look := func(turn uint64) {
		stamp := now.Load() - min(turn%7, now.Load()-1)
		row, there := s.Read(0, int(turn%2)*2, stamp)
		if stamp < floor.Load() { // it was pruned since
			return
		}
		if want := int64(stamp - stamp%3); stamp > 3 && (!there || row[0].N != want || row[1].N != want) {
			t.Errorf("Read at %d = %v, %v", stamp, row, there)
		}
	}
	all := func(turn uint64) {
		l, in := s.Versions(0), s.Intent(0)
		for i, v := range l {
			if i > 0 && l[i-1].Stamp <= v.Stamp || v.Row[0] != v.Row[1] || v.Row[0].N != int64(v.Stamp) {
				t.Errorf("versions %s", shownVersions(l))
			}
		}
		for i, w := range in.Writes {
			if w.Row[0] != w.Row[1] || w.Level != i || w.Row[0].N != in.Writes[0].Row[0].N {
				t.Errorf("intent %s", shownIntent(in))
			}
		}
		if turn%5 == 0 {
			to := now.Load() - min(now.Load(), 10)
			floor.Store(to)
			s.Prune(to)
		}
	}
	beside(look, func() {
		beside(look, func() {
			beside(all, func() {
				for stamp := uint64(3); stamp < last; stamp += 3 {
					written(t, s, 0, 1, twins(0, int64(stamp)), stamp)
					written(t, s, 0, 1, twins(1, int64(stamp)), stamp)
					if stamp%2 == 0 {
						s.Back(1, 1)
					} else {
						s.Fold(1, 1)
					}
					settled(t, s, 1, stamp, 1)
					now.Store(stamp + 2)
				}
			})
		})
	})
}

// So2, So4, So5: one transaction's calls in many goroutines: each row that it wrote is settled, or taken back, once.
func TestManyOfOneTransaction(t *testing.T) {
	const rows = 40
	for range 100 {
		s := newStore(t, rows)
		for slot := range rows {
			added(t, s, 1, on(0, 0), slot)
		}
		settled(t, s, 1, 1, rows)
		var settledRows, busy atomic.Int64
		together(8, func(w int) {
			for slot := range rows {
				txn := 2 + (w+slot)%2*desks // two transactions that are looked for in one place
				if err := s.Write((slot*7+w)%rows, txn, on(1, int64(w)), math.MaxUint64); err == api.ErrBusy {
					busy.Add(1)
				} else if err != api.OK {
					t.Errorf("Write = %d", err)
				}
				switch {
				case slot%8 == 3:
					n, err := s.Settle(txn, uint64(2+slot*10+w)) // may be older than another one's
					if err != api.OK && err != api.ErrOlder || err == api.ErrOlder && n != 0 {
						t.Errorf("Settle = %d, %d", n, err)
					}
					settledRows.Add(int64(n))
				case slot%8 == 5:
					s.Fold(txn, 1)
				case slot%8 == 7:
					if gone := s.Back(txn, 1); len(gone) != 0 {
						t.Errorf("Back = %v", gone)
					}
				}
			}
		})
		s.Back(2, 0)
		s.Back(2+desks, 0)
		all := 0
		for slot := range rows {
			l := s.Versions(slot)
			all += len(l) - 1
			for i := 1; i < len(l); i++ {
				if l[i-1].Stamp <= l[i].Stamp {
					t.Fatalf("versions %s", shownVersions(l))
				}
			}
			wants(t, "Intent behind all", shownIntent(s.Intent(slot)), nobody)
		}
		if int64(all) != settledRows.Load() {
			t.Fatalf("%d versions came, %d rows were settled", all, settledRows.Load())
		}
		settled(t, s, 2, api.MaxStamp, 0)
	}
}

// till waits for what another goroutine does.
func till(is func() bool) {
	for n := 1; !is(); n++ {
		if n%1000 == 0 {
			runtime.Gosched()
		}
	}
}

// So2, So4: who has seen that a row came, or went, is told by its next Add the slot that is the least one by that; beside many that ask for all slots, so that who comes or goes may have to wait.
func TestAddBehindWhatIsSeen(t *testing.T) {
	const rows = 4096
	s := newStore(t, rows+3)
	for slot := range rows {
		added(t, s, 9, on(0, 0), slot)
	}
	all := func(uint64) {
		if n := len(s.Slots()); n < rows || n > rows+2 {
			t.Errorf("%d rows are there", n)
		}
	}
	see := func(txn, slot int) {
		till(func() bool { return s.Intent(rows).Txn == txn })
		if told, err := s.Add(3, on(0, 3)); told != slot || err != api.OK {
			t.Errorf("Add = %d, %d, want %d", told, err, slot)
		}
	}
	turns := func() {
		for range 100 {
			together(2, func(w int) {
				if w == 0 {
					s.Add(1, on(0, 1))
				} else {
					see(1, rows+1)
				}
			})
			s.Back(3, 0)
			together(2, func(w int) {
				if w == 0 {
					s.Back(1, 0)
				} else {
					see(0, rows)
				}
			})
			s.Back(3, 0)
		}
	}
	beside(all, func() { beside(all, turns) })
}

// So4, So5: a transaction whose savepoint is released, or gone back to, while it adds rows and writes others, has still written them all.
func TestManyWriteBesideBackAndFold(t *testing.T) {
	const rows = 100
	for range 40 {
		s := newStore(t, 2*rows)
		for slot := range rows {
			added(t, s, 1, on(0, 0), slot)
		}
		settled(t, s, 1, 1, rows)
		beside(func(turn uint64) {
			if turn%2 == 0 {
				s.Fold(2, 1)
			} else if gone := s.Back(2, 1); len(gone) != 0 {
				t.Errorf("Back = %v", gone)
			}
		}, func() {
			together(2, func(w int) {
				for n := range rows {
					if w == 0 {
						if _, err := s.Add(2, on(0, int64(n))); err != api.OK {
							t.Errorf("Add: %d", err)
						}
					} else if err := s.Write(n, 2, on(0, int64(n)), 1); err != api.OK {
						t.Errorf("Write = %d", err)
					}
				}
			})
		})
		settled(t, s, 2, 5, 2*rows)
	}
}

// So1 to So6: many that do all things by chance, each with rows of its own, are told what each would be told alone.
func TestManyApart(t *testing.T) {
	const workers, each = 8, 12
	s := newStore(t, workers*each)
	plains := make([]*plain, workers)
	for w := range workers {
		plains[w] = newPlain(workers * each)
		for n := range each {
			slot := w*each + n
			added(t, s, w+1, on(0, int64(n)), slot)
			plains[w].rows[slot] = plainRow{intent: api.Intent{Txn: w + 1, Writes: []api.Write{on(0, int64(n))}}}
		}
		settled(t, s, w+1, 1, each)
		settled(t, plains[w], w+1, 1, each)
	}
	together(workers, func(w int) {
		r, now := rng(w), uint64(1)
		for i := range 4000 {
			st := chance(&r, each, 1, &now)
			if st.kind == add || st.kind == prune || st.slot < 0 || st.slot >= each || st.txn != 1 {
				continue // these meet the others, or other ones
			}
			st.slot, st.txn = w*each+st.slot, w+1
			if told, want := do(s, st), do(plains[w], st); told != want {
				t.Errorf("worker %d, step %d, %v: %s, want %s", w, i, st, told, want)
				return
			}
		}
	})
	for w := range workers {
		for slot := w * each; slot < (w+1)*each; slot++ {
			wants(t, "Versions", shownVersions(s.Versions(slot)), shownVersions(plains[w].Versions(slot)))
			wants(t, "Intent", shownIntent(s.Intent(slot)), shownIntent(plains[w].Intent(slot)))
		}
	}
}
