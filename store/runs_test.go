package store_test

import (
	"math"
	"slices"
	"testing"

	"vellum/api"
)

// So1 to So6: every row of five steps, of two transactions on a store of one or two slots, told as the plain store tells. (The first one adds: all others tell the same of an empty store.)
func TestAllRowsOfSteps(t *testing.T) {
	steps := []step{
		{kind: add, txn: 1, w: on(0, 1)},
		{kind: add, txn: 2, w: on(1, 2)},
		{kind: write, slot: 0, txn: 1, w: goneOn(1), stamp: 3},
		{kind: write, slot: 0, txn: 2, w: on(0, 3), stamp: 3},
		{kind: write, slot: 1, txn: 1, w: on(1, 4), stamp: 5},
		{kind: back, txn: 1, w: on(1, 0)},
		{kind: back, txn: 2, w: on(0, 0)},
		{kind: fold, txn: 1, w: on(1, 0)},
		{kind: settle, txn: 1, stamp: 3},
		{kind: settle, txn: 2, stamp: 3},
		{kind: settle, txn: 1, stamp: 5},
		{kind: prune, stamp: 4},
		{kind: prune, stamp: 5},
	}
	row := make([]step, 0, 5)
	var next func()
	next = func() {
		if len(row) < cap(row) {
			all := steps
			if len(row) == 0 {
				all = steps[:2]
			}
			for _, s := range all {
				row = append(row, s)
				next()
				row = row[:len(row)-1]
			}
			return
		}
		for most := 1; most <= 2; most++ {
			s, p := newStore(t, most), newPlain(most)
			for i, st := range row {
				if told, want := do(s, st), do(p, st); told != want {
					t.Fatalf("%d slots, step %d of %v: %s, want %s", most, i, row, told, want)
				}
			}
			stamps := []uint64{2, 3, 5}
			if told, want := shown(s, most, 2, stamps), shown(p, most, 2, stamps); told != want {
				t.Fatalf("%d slots, behind %v there is\n%s want\n%s", most, row, told, want)
			}
		}
	}
	next()
}

// chance is a step by chance: wrong ones too, not often.
func chance(r *rng, most, txns int, now *uint64) step {
	s := step{kind: r.below(kinds), slot: r.below(most), txn: 1 + r.below(txns)}
	if s.kind >= back && r.below(3) > 0 {
		s.kind = r.below(back) // rows live longer so
	}
	s.w = on(r.below(4), int64(r.below(1000)))
	if s.kind == write && r.below(4) == 0 || r.below(60) == 0 {
		s.w = goneOn(r.below(4))
	}
	switch r.below(40) {
	case 0:
		s.slot = []int{-1, most, math.MaxInt, math.MinInt}[r.below(4)]
	case 1:
		s.txn = []int{0, -1, math.MaxInt, math.MinInt, s.txn + desks}[r.below(5)]
	case 2:
		s.w.Level = []int{-1, math.MinInt, math.MaxInt}[r.below(3)]
	}
	*now += uint64(r.below(2))
	s.stamp = *now
	switch r.below(10) {
	case 0:
		s.stamp -= min(s.stamp, uint64(r.below(20)))
	case 1:
		s.stamp += uint64(r.below(3))
	}
	switch {
	case s.kind == prune:
		s.stamp -= min(s.stamp, uint64(r.below(30)))
	case s.kind == write:
		s.stamp += uint64(r.below(2)) * 5
	case s.kind == settle && r.below(50) == 0:
		s.stamp = []uint64{0, api.MaxStamp + 1, math.MaxUint64}[r.below(3)]
	}
	return s
}

// desks is by how much the numbers of transactions lie apart that are looked for in one place.
const desks = 64

// So1 to So6: long runs by chance, of stores of some sizes, told as the plain store tells.
func TestRunsByChance(t *testing.T) {
	for _, size := range [][3]int{{1, 2, 3000}, {2, 3, 6000}, {5, 3, 8000}, {64, 5, 6000}, {70, 9, 6000}, {130, 2, 6000}} {
		most, txns := size[0], size[1]
		s, p := newStore(t, most), newPlain(most)
		r, now := rng(most), uint64(1)
		for i := range size[2] {
			st := chance(&r, most, txns, &now)
			if told, want := do(s, st), do(p, st); told != want {
				t.Fatalf("%d slots, step %d, %v: %s, want %s", most, i, st, told, want)
			}
			if !slices.Equal(s.Slots(), p.Slots()) {
				t.Fatalf("%d slots, behind step %d: Slots = %v, want %v", most, i, s.Slots(), p.Slots())
			}
			if i%20 > 0 && most > 5 {
				continue
			}
			stamps := []uint64{now - min(now, 10), now, st.stamp}
			if told, want := shown(s, most, txns, stamps), shown(p, most, txns, stamps); told != want {
				t.Fatalf("%d slots, behind step %d, %v, there is\n%s want\n%s", most, i, st, told, want)
			}
		}
	}
}

// So1, So2, So4 to So6: a store of 2^16 rows, each slot taken in its turn; it is full then, till one goes, and each goes by Back, Settle or Prune.
func TestMostRows(t *testing.T) {
	s := newStore(t, api.MaxRows)
	for slot := range api.MaxRows {
		added(t, s, 1+slot%3, on(0, int64(slot)), slot)
	}
	full := func() {
		t.Helper()
		if slot, err := s.Add(1, on(0, 0)); slot != 0 || err != api.ErrFull {
			t.Errorf("Add = %d, %d, want ErrFull", slot, err)
		}
		if l := s.Slots(); len(l) != api.MaxRows || l[0] != 0 || l[api.MaxRows-1] != api.MaxRows-1 {
			t.Errorf("there are %d rows", len(l))
		}
	}
	full()
	third := api.MaxRows / 3 // of transaction 1 there is one more
	gone := s.Back(1, 0)
	if len(gone) != third+1 || !slices.IsSorted(gone) || gone[0] != 0 || gone[third] != api.MaxRows-1 {
		t.Errorf("%d rows went by Back", len(gone))
	}
	for _, slot := range gone {
		added(t, s, 4, on(0, int64(slot)), slot)
	}
	full()
	settled(t, s, 2, 7, third)
	settled(t, s, 4, 8, third+1)
	for slot := 0; slot < api.MaxRows; slot += 3 {
		written(t, s, slot, 5, goneOn(0), 8)
	}
	settled(t, s, 5, 9, third+1)
	full()
	n, gone := s.Prune(9)
	if n != 2*(third+1) || len(gone) != third+1 || !slices.IsSorted(gone) || gone[third] != api.MaxRows-1 {
		t.Errorf("%d versions and %d rows went by Prune", n, len(gone))
	}
	for slot := 2; slot < api.MaxRows; slot += 3 {
		written(t, s, slot, 3, goneOn(0), 0)
	}
	settled(t, s, 3, 10, third)
	if l := s.Slots(); len(l) != third || l[0] != 1 {
		t.Errorf("there are %d rows, want %d", len(l), third)
	}
	for _, slot := range []int{0, 2, 3, 5, 6} {
		added(t, s, 6, on(0, 1), slot)
	}
}

// So5: a version costs the same, however many a row has; all are told.
func TestManyVersions(t *testing.T) {
	const many = 1 << 16
	s := newStore(t, 1)
	added(t, s, 1, on(0, 0), 0)
	for stamp := uint64(1); stamp <= many; stamp++ {
		settled(t, s, 1, stamp, 1)
		written(t, s, 0, 1, on(0, int64(stamp)), stamp)
	}
	l := s.Versions(0)
	if len(l) != many {
		t.Fatalf("there are %d versions, want %d", len(l), many)
	}
	for i, v := range l {
		if v.Stamp != uint64(many-i) || v.Row[0].N != int64(many-i-1) {
			t.Fatalf("version %d is %v", i, v)
		}
	}
	sees(t, s, 0, 0, 3, "[2]")
	if n, gone := s.Prune(many - 1); n != many-2 || len(gone) != 0 || len(s.Versions(0)) != 2 {
		t.Errorf("Prune = %d, %v, %d versions are left", n, gone, len(s.Versions(0)))
	}
}

// So4: a savepoint released again and again costs little, of a transaction that wrote many rows.
func TestManyFolds(t *testing.T) {
	s := newStore(t, 4096)
	for slot := range 4096 {
		added(t, s, 1, on(1, int64(slot)), slot)
		wants(t, "Fold", s.Fold(1, 1), api.OK)
		if gone := s.Back(1, 1); len(gone) != 0 {
			t.Fatalf("Back = %v", gone)
		}
	}
	for _, slot := range []int{0, 1, 4095} {
		wants(t, "Intent", shownIntent(s.Intent(slot)), shownIntent(api.Intent{Txn: 1, Writes: []api.Write{on(0, int64(slot))}}))
	}
	settled(t, s, 1, 1, 4096)
}
