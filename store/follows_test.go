package store_test

import (
	"testing"

	"vellum/api"
)

// So7: of a row that has no intent Read at a stamp tells the same, whatever is written, until it is pruned above that stamp, or settled at it or below it.
func TestCommittedStays(t *testing.T) {
	const most, txns, last = 6, 4, 60
	s := newStore(t, most)
	r, now := rng(7), uint64(1)
	var was [most][last + 1]string // "": not known, or free to change
	for i := range 20000 {
		st := chance(&r, most, txns, &now)
		if st.stamp = 1 + st.stamp%last; st.kind == prune && r.below(40) > 0 {
			continue
		}
		var mine []int
		for slot := range most {
			if s.Intent(slot).Txn == st.txn {
				mine = append(mine, slot)
			}
		}
		do(s, st)
		switch st.kind {
		case prune: // "pruned above that stamp"
			for slot := range most {
				clear(was[slot][:min(last+1, st.stamp)])
			}
		case settle: // "settled at it or below it"
			for _, slot := range mine {
				clear(was[slot][st.stamp:])
			}
		}
		for slot := range most {
			if s.Intent(slot).Txn != 0 {
				continue
			}
			for stamp := range uint64(last + 1) {
				row, there := s.Read(slot, 1+r.below(txns), stamp)
				is := shownRow(!there, row)
				if was[slot][stamp] != "" && was[slot][stamp] != is {
					t.Fatalf("step %d, %v: row %d at %d is %s, was %s", i, st, slot, stamp, is, was[slot][stamp])
				}
				was[slot][stamp] = is
			}
		}
	}
}

// So7: nobody reads what another one wrote and has not settled: what others read is what they read of a store in which the writer wrote nothing.
func TestNobodyReadsIntents(t *testing.T) {
	const most, txns = 4, 3
	s := newStore(t, most)
	r, now := rng(8), uint64(1)
	for i := range 8000 {
		st := chance(&r, most, txns, &now)
		do(s, st)
		for slot := range most {
			writer := s.Intent(slot).Txn
			versions := &plain{most, map[int]plainRow{slot: {versions: s.Versions(slot)}}}
			for _, txn := range []int{0, 1, 2, 3, 4} {
				if txn == writer && txn > 0 {
					continue
				}
				for _, stamp := range []uint64{now, now - min(now, 5), st.stamp} {
					row, there := s.Read(slot, txn, stamp)
					want, wanted := versions.Read(slot, txn, stamp)
					if told, want := shownRow(!there, row), shownRow(!wanted, want); told != want {
						t.Fatalf("step %d: Read(%d, %d, %d) = %s, want %s", i, slot, txn, stamp, told, want)
					}
				}
			}
		}
	}
}

// So7: behind Back(txn, 0) all is as if txn had written nothing: the others, done alone, leave the same (but for the slots of rows that were added beside it).
func TestBackLeavesNothing(t *testing.T) {
	const most, txns = 6, 3
	for seed := range rng(60) {
		s, alone := newStore(t, most), newStore(t, most)
		r, now := seed, uint64(1)
		for slot := range most - 2 { // some rows that are committed
			for _, x := range []rows{s, alone} {
				added(t, x, 1, on(0, int64(slot)), slot)
				settled(t, x, 1, 1, 1)
			}
		}
		for range 200 {
			st := chance(&r, most, txns, &now)
			if st.txn > txns || st.kind == add && st.txn != 3 || st.kind == prune {
				continue // 3 adds rows, which the others leave alone: so they stand behind those that are committed
			}
			if st.kind == settle && st.txn == 3 {
				continue
			}
			if st.kind == write && st.txn != 3 && (st.slot >= most-2 || s.Intent(st.slot).Txn == 3) {
				continue // it would be told ErrBusy for what 3 wrote
			}
			told := do(s, st)
			if st.txn == 3 {
				continue
			}
			if want := do(alone, st); told != want {
				t.Fatalf("run %d, %v: %s, alone %s", seed, st, told, want)
			}
		}
		s.Back(3, 0)
		stamps := []uint64{0, 1, now / 2, now}
		if told, want := shown(s, most, txns, stamps), shown(alone, most, txns, stamps); told != want {
			t.Fatalf("run %d: behind Back there is\n%s want\n%s", seed, told, want)
		}
	}
}

// So7, So2: the slots that Back gives back are the ones that Add takes next.
func TestBackGivesSlotsBack(t *testing.T) {
	s := newStore(t, 130)
	for slot := range 130 {
		added(t, s, 1+slot%2, on(0, int64(slot)), slot)
	}
	was := shown(s, 130, 2, []uint64{5})
	for _, slot := range s.Back(2, 0) {
		added(t, s, 2, on(0, int64(slot)), slot)
	}
	if is := shown(s, 130, 2, []uint64{5}); is != was {
		t.Errorf("there is\n%s was\n%s", is, was)
	}
	if _, err := s.Add(3, on(0, 1)); err != api.ErrFull {
		t.Errorf("Add = %d, want ErrFull", err)
	}
}
