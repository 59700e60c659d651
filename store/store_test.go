package store_test

import (
	"math"
	"slices"
	"testing"

	"vellum/api"
	"vellum/store"
)

// wants holds what a call told against what it should tell.
func wants[T comparable](t *testing.T, call string, told, want T) {
	t.Helper()
	if told != want {
		t.Errorf("%s = %v, want %v", call, told, want)
	}
}

// added adds a row, and wants it in a slot.
func added(t *testing.T, s rows, txn int, w api.Write, slot int) {
	t.Helper()
	if told, err := s.Add(txn, w); told != slot || err != api.OK {
		t.Fatalf("Add(%d, %v) = %d, %d, want %d", txn, w, told, err, slot)
	}
}

func written(t *testing.T, s rows, slot, txn int, w api.Write, snapshot uint64) {
	t.Helper()
	if err := s.Write(slot, txn, w, snapshot); err != api.OK {
		t.Fatalf("Write(%d, %d, %v, %d) = %d", slot, txn, w, snapshot, err)
	}
}

func settled(t *testing.T, s rows, txn int, stamp uint64, n int) {
	t.Helper()
	if told, err := s.Settle(txn, stamp); told != n || err != api.OK {
		t.Fatalf("Settle(%d, %d) = %d, %d, want %d", txn, stamp, told, err, n)
	}
}

// sees wants a row as somebody reads it, in a text: "-", if none is seen.
func sees(t *testing.T, s rows, slot, txn int, stamp uint64, want string) {
	t.Helper()
	row, there := s.Read(slot, txn, stamp)
	if told := shownRow(!there, row); told != want {
		t.Errorf("Read(%d, %d, %d) = %s, want %s", slot, txn, stamp, told, want)
	}
}

// holds wants a row's versions and its intent, in a text.
func holds(t *testing.T, s rows, slot int, versions, intent string) {
	t.Helper()
	wants(t, "Versions", shownVersions(s.Versions(slot)), versions)
	wants(t, "Intent", shownIntent(s.Intent(slot)), intent)
}

const nobody = "(of 0: )"

// So1 to So5: the chapter's first example.
func TestExampleOfIntents(t *testing.T) {
	s := newStore(t, 2)
	added(t, s, 1, on(0, 5), 0)
	sees(t, s, 0, 1, 9, "[5]")
	sees(t, s, 0, 2, 9, "-")
	wants(t, "Write of another one", s.Write(0, 2, on(0, 6), 9), api.ErrBusy)
	settled(t, s, 1, 10, 1)
	sees(t, s, 0, 0, 9, "-")
	sees(t, s, 0, 0, 10, "[5]")
	wants(t, "Write as of 9", s.Write(0, 2, on(0, 6), 9), api.ErrNewer)
	wants(t, "Write as of 10", s.Write(0, 2, on(0, 6), 10), api.OK)
	holds(t, s, 0, "([5]@10 )", "(of 2: [6] on 0 )")
}

// So5: the chapter's second example: what was added and taken away again leaves nothing.
func TestExampleOfNothing(t *testing.T) {
	s := newStore(t, 2)
	added(t, s, 1, on(0, 5), 0)
	written(t, s, 0, 1, goneOn(0), 0)
	settled(t, s, 1, 4, 1)
	if l := s.Slots(); len(l) != 0 {
		t.Errorf("Slots = %v", l)
	}
	wants(t, "Write", s.Write(0, 1, on(0, 1), 9), api.ErrRowless)
}

// So6: the chapter's third example.
func TestExampleOfPrune(t *testing.T) {
	s := newStore(t, 2)
	added(t, s, 1, on(0, 5), 0)
	settled(t, s, 1, 4, 1)
	written(t, s, 0, 1, goneOn(0), 4)
	settled(t, s, 1, 7, 1)
	holds(t, s, 0, "(-@7 [5]@4 )", nobody)
	if n, gone := s.Prune(8); n != 2 || !slices.Equal(gone, []int{0}) || len(s.Slots()) != 0 {
		t.Errorf("Prune = %d, %v, Slots = %v", n, gone, s.Slots())
	}
	holds(t, s, 0, "()", nobody)
}

// So1: which sizes a store may have; a new one has no rows.
func TestNew(t *testing.T) {
	for _, most := range []int{math.MinInt, -65536, -1, 0, 65537, 65538, 1 << 17, 1 << 32, 1<<32 + 1, math.MaxInt} {
		if s, err := store.New(most); s != nil || err != api.ErrArg {
			t.Errorf("New(%d) = %v, %d, want ErrArg", most, s, err)
		}
	}
	for _, most := range []int{1, 2, 63, 64, 65, 65535, 65536} {
		s := newStore(t, most)
		if l := s.Slots(); len(l) != 0 {
			t.Errorf("Slots of a new store = %v", l)
		}
		for _, slot := range []int{math.MinInt, -1, 0, most - 1, most, math.MaxInt} {
			holds(t, s, slot, "()", nobody)
			sees(t, s, slot, 1, math.MaxUint64, "-")
		}
	}
}

// So1 to So4: where no row is, nothing is told, and Write is refused, whatever else it is given.
func TestNoRow(t *testing.T) {
	s := newStore(t, 3)
	added(t, s, 1, on(0, 1), 0)
	added(t, s, 2, on(0, 2), 1)
	added(t, s, 1, on(0, 3), 2)
	if gone := s.Back(2, 0); !slices.Equal(gone, []int{1}) {
		t.Errorf("Back = %v, want 1", gone)
	}
	for _, slot := range []int{math.MinInt, -64, -1, 1, 3, 4, 64, 65536, 1 << 32, 1<<32 + 2, math.MaxInt} {
		holds(t, s, slot, "()", nobody)
		for _, txn := range []int{math.MinInt, -1, 0, 1, 2, math.MaxInt} {
			sees(t, s, slot, txn, math.MaxUint64, "-")
			for _, w := range []api.Write{on(0, 1), goneOn(0), on(-1, 1), {Gone: true, Row: row(1)}} {
				wants(t, "Write", s.Write(slot, txn, w, math.MaxUint64), api.ErrRowless)
			}
		}
	}
	if l := s.Slots(); !slices.Equal(l, []int{0, 2}) {
		t.Errorf("Slots = %v, want 0, 2", l)
	}
}

// wrongAdds is what Add refuses, of any store.
func wrongAdds() []step {
	return []step{
		{txn: 0, w: on(0, 1)}, {txn: -1, w: on(0, 1)}, {txn: math.MinInt, w: on(0, 1)},
		{txn: 1, w: on(-1, 1)}, {txn: 1, w: on(math.MinInt, 1)},
		{txn: 1, w: goneOn(0)}, {txn: 1, w: goneOn(3)}, {txn: 1, w: api.Write{Gone: true, Row: row(1)}},
		{txn: 0, w: goneOn(-1)},
	}
}

// So2, R2: what Add refuses, in the order of its errors; nothing is done then.
func TestAddRefuses(t *testing.T) {
	s := newStore(t, 2)
	refused := func(slots []int) {
		t.Helper()
		for _, a := range wrongAdds() {
			if slot, err := s.Add(a.txn, a.w); slot != 0 || err != api.ErrArg {
				t.Errorf("Add(%d, %v) = %d, %d, want ErrArg", a.txn, a.w, slot, err)
			}
		}
		if l := s.Slots(); !slices.Equal(l, slots) {
			t.Errorf("Slots = %v, want %v", l, slots)
		}
	}
	refused(nil)
	added(t, s, 1, on(0, 5), 0)
	refused([]int{0})
	added(t, s, math.MaxInt, api.Write{Level: math.MaxInt}, 1)
	refused([]int{0, 1}) // ErrArg is named ahead of ErrFull
	for range 3 {
		if slot, err := s.Add(1, on(0, 7)); slot != 0 || err != api.ErrFull {
			t.Errorf("Add = %d, %d, want ErrFull", slot, err)
		}
	}
	holds(t, s, 0, "()", "(of 1: [5] on 0 )")
	holds(t, s, 1, "()", "(of 9223372036854775807:  on 9223372036854775807 )")
	sees(t, s, 1, math.MaxInt, 0, "") // a row of no values is seen
}

// So2: a slot is free again, and the least one is taken first, whatever the row went by: Back, Settle or Prune.
func TestLeastSlot(t *testing.T) {
	s := newStore(t, 6)
	for slot := range 6 {
		added(t, s, slot+1, on(0, int64(slot)), slot)
	}
	s.Back(5, 0)                      // slot 4
	written(t, s, 1, 2, goneOn(1), 0) // slot 1
	settled(t, s, 2, 3, 1)
	settled(t, s, 3, 4, 1) // slot 2
	written(t, s, 2, 9, goneOn(0), 4)
	settled(t, s, 9, 5, 1)
	if n, gone := s.Prune(5); n != 2 || !slices.Equal(gone, []int{2}) {
		t.Errorf("Prune = %d, %v", n, gone)
	}
	if l := s.Slots(); !slices.Equal(l, []int{0, 3, 5}) {
		t.Errorf("Slots = %v", l)
	}
	for _, slot := range []int{1, 2, 4} {
		added(t, s, 7, on(0, 70), slot)
		holds(t, s, slot, "()", "(of 7: [70] on 0 )")
	}
	if _, err := s.Add(7, on(0, 71)); err != api.ErrFull {
		t.Errorf("Add = %d, want ErrFull", err)
	}
}

// So2, R2: the order of Write's errors, each beside all that are named behind it.
func TestOrderOfWritesErrors(t *testing.T) {
	wrong := []api.Write{on(-1, 1), on(math.MinInt, 1), {Level: 2, Gone: true, Row: row(1)}, goneOn(-1)}
	s := newStore(t, 3)
	added(t, s, 1, on(0, 5), 0)
	added(t, s, 1, on(0, 6), 1)
	settled(t, s, 1, 10, 2)
	written(t, s, 1, 2, on(2, 7), 10)
	was := shown(s, 3, 3, []uint64{9, 10})
	for _, w := range wrong {
		wants(t, "Write of a wrong one, no row", s.Write(2, 1, w, 0), api.ErrRowless)
		wants(t, "Write of a wrong one, newer", s.Write(0, 1, w, 0), api.ErrArg)
		wants(t, "Write of a wrong one", s.Write(0, 1, w, 10), api.ErrArg)
		wants(t, "Write of a wrong one, busy", s.Write(1, 1, w, 0), api.ErrArg)
		wants(t, "Write of a wrong one, one's own", s.Write(1, 2, w, 0), api.ErrArg)
	}
	for _, txn := range []int{0, -1, math.MinInt} {
		wants(t, "Write of no transaction, newer", s.Write(0, txn, on(0, 1), 0), api.ErrArg)
		wants(t, "Write of no transaction", s.Write(0, txn, on(0, 1), 10), api.ErrArg)
		wants(t, "Write of no transaction, busy", s.Write(1, txn, on(0, 1), 10), api.ErrArg)
	}
	wants(t, "Write below the writer's level", s.Write(1, 2, on(1, 1), 10), api.ErrArg)
	wants(t, "Write of another one, below the writer's level, newer", s.Write(1, 3, on(1, 1), 0), api.ErrBusy)
	wants(t, "Write of another one", s.Write(1, 3, on(2, 1), 10), api.ErrBusy)
	wants(t, "Write as of 9", s.Write(0, 3, on(0, 1), 9), api.ErrNewer)
	wants(t, "Write as of 0", s.Write(0, 3, goneOn(5), 0), api.ErrNewer)
	if is := shown(s, 3, 3, []uint64{9, 10}); is != was {
		t.Errorf("what was refused left\n%s of\n%s", is, was)
	}
	for _, snapshot := range []uint64{0, 9, 10, math.MaxUint64} { // a writer's own row is never newer to it
		wants(t, "Write by its writer", s.Write(1, 2, on(2, 8), snapshot), api.OK)
	}
	for _, snapshot := range []uint64{10, 11, api.MaxStamp, math.MaxUint64} {
		wants(t, "Write from 10 on", s.Write(0, 4, on(0, 8), snapshot), api.OK)
		s.Back(4, 0)
	}
}

// So2, So3: writes level by level; a writer sees its last one, others what is committed.
func TestWritesOnLevels(t *testing.T) {
	s := newStore(t, 1)
	added(t, s, 1, on(0, 5), 0)
	settled(t, s, 1, 4, 1)
	written(t, s, 0, 2, on(1, 6), 4)
	written(t, s, 0, 2, on(1, 7), 4)
	holds(t, s, 0, "([5]@4 )", "(of 2: [7] on 1 )")
	written(t, s, 0, 2, goneOn(3), 4)
	holds(t, s, 0, "([5]@4 )", "(of 2: [7] on 1 - on 3 )")
	for stamp, want := range []string{"-", "-", "-", "-", "[5]", "[5]"} {
		sees(t, s, 0, 2, uint64(stamp), "-")
		for _, txn := range []int{math.MinInt, -2, -1, 0, 1, 3} {
			sees(t, s, 0, txn, uint64(stamp), want)
		}
	}
	written(t, s, 0, 2, on(4, 8), 4)
	sees(t, s, 0, 2, 0, "[8]")
	if gone := s.Back(2, 3); len(gone) != 0 {
		t.Errorf("Back = %v", gone)
	}
	holds(t, s, 0, "([5]@4 )", "(of 2: [7] on 1 )")
	sees(t, s, 0, 2, 0, "[7]")
}

// So4: Back of each level of rows with unlike ones; the slots of those that are there no more, rising, whatever the order in which they were written.
func TestBack(t *testing.T) {
	for _, level := range []int{math.MinInt, -1, 0, 1, 2, 3, 4, math.MaxInt} {
		s, p := newStore(t, 80), newPlain(80)
		for _, r := range []rows{s, p} {
			for slot := range 70 {
				added(t, r, 1+slot%3, on(slot%4, int64(slot)), slot)
			}
			for n := range 70 {
				slot := 69 - n
				written(t, r, slot, 1+slot%3, on(slot%4+slot%2, int64(100+slot)), 0)
			}
			settled(t, r, 3, 5, 23)
			for n := range 23 {
				written(t, r, 2+(22-n)*3, 2, on(n%4, int64(200+n)), 5)
			}
		}
		for _, txn := range []int{2, 0, 7, 1, -1, 1, 2} {
			told, want := s.Back(txn, level), p.Back(txn, level)
			if !slices.Equal(told, want) {
				t.Errorf("Back(%d, %d) = %v, want %v", txn, level, told, want)
			}
			if told, want := shown(s, 80, 3, []uint64{4, 5}), shown(p, 80, 3, []uint64{4, 5}); told != want {
				t.Fatalf("behind Back(%d, %d) there is\n%s want\n%s", txn, level, told, want)
			}
		}
	}
}

// So4: Fold of each level; it is refused below 1, whoever asks; no row goes by it.
func TestFold(t *testing.T) {
	for _, level := range []int{math.MinInt, -1, 0, 1, 2, 3, 4, 5, math.MaxInt} {
		s, p := newStore(t, 9), newPlain(9)
		for _, r := range []rows{s, p} {
			for slot := range 9 {
				added(t, r, 1+slot%2, on(slot%3, int64(slot)), slot)
				written(t, r, slot, 1+slot%2, goneOn(slot%3+1), 0)
				written(t, r, slot, 1+slot%2, on(slot%3+2, int64(slot+10)), 0)
			}
		}
		for _, txn := range []int{2, 0, 7, -1, 1, 2} {
			want := api.OK
			if level < 1 {
				want = api.ErrArg
			}
			wants(t, "Fold", s.Fold(txn, level), want)
			p.Fold(txn, level)
			if told, want := shown(s, 9, 3, []uint64{4}), shown(p, 9, 3, []uint64{4}); told != want {
				t.Fatalf("behind Fold(%d, %d) there is\n%s want\n%s", txn, level, told, want)
			}
		}
	}
}

// So5, R2: what Settle refuses, in the order of its errors; nothing is done then, of no row.
func TestSettleRefuses(t *testing.T) {
	s := newStore(t, 3)
	added(t, s, 1, on(0, 5), 0)
	settled(t, s, 1, 10, 1)
	added(t, s, 2, on(0, 6), 1)
	written(t, s, 0, 2, on(0, 7), 10)
	added(t, s, 2, on(0, 8), 2)
	was := shown(s, 3, 2, []uint64{9, 10, math.MaxUint64})
	for _, stamp := range []uint64{0, api.MaxStamp + 1, 1 << 63, math.MaxUint64} {
		for _, txn := range []int{math.MinInt, -1, 0, 1, 2, 7} {
			if n, err := s.Settle(txn, stamp); n != 0 || err != api.ErrArg {
				t.Errorf("Settle(%d, %d) = %d, %d, want ErrArg", txn, stamp, n, err)
			}
		}
	}
	for _, stamp := range []uint64{1, 9, 10} {
		if n, err := s.Settle(2, stamp); n != 0 || err != api.ErrOlder {
			t.Errorf("Settle(2, %d) = %d, %d, want ErrOlder", stamp, n, err)
		}
		for _, txn := range []int{math.MinInt, -1, 0, 1, 7} {
			settled(t, s, txn, stamp, 0)
		}
	}
	if is := shown(s, 3, 2, []uint64{9, 10, math.MaxUint64}); is != was {
		t.Errorf("what was refused left\n%s of\n%s", is, was)
	}
	settled(t, s, 2, 11, 3)
	holds(t, s, 0, "([7]@11 [5]@10 )", nobody)
	settled(t, s, 2, 12, 0)
	written(t, s, 1, 3, on(0, 1), 11)
	settled(t, s, 3, api.MaxStamp, 1)
	holds(t, s, 1, "([1]@4611686018427387904 [6]@11 )", nobody)
}

// So5: a Gone write is a version just where a row was.
func TestSettleOfGone(t *testing.T) {
	s := newStore(t, 3)
	added(t, s, 1, on(0, 5), 0)
	added(t, s, 1, on(0, 6), 1)
	settled(t, s, 1, 4, 2)
	written(t, s, 0, 1, goneOn(2), 4)
	settled(t, s, 1, 6, 1)
	holds(t, s, 0, "(-@6 [5]@4 )", nobody)
	written(t, s, 0, 1, goneOn(0), 6) // again: it is gone already
	settled(t, s, 1, 8, 1)
	holds(t, s, 0, "(-@6 [5]@4 )", nobody)
	written(t, s, 0, 1, on(0, 9), 6) // it was not settled at 8: so 6 is its newest
	written(t, s, 0, 1, goneOn(1), 6)
	settled(t, s, 1, 7, 1)
	holds(t, s, 0, "(-@6 [5]@4 )", nobody)
	written(t, s, 0, 1, goneOn(0), 6)
	written(t, s, 0, 1, on(1, 9), 6)
	settled(t, s, 1, 7, 1)
	holds(t, s, 0, "([9]@7 -@6 [5]@4 )", nobody)
	wants(t, "Slots", len(s.Slots()), 2)
}

// So6: a row whose versions all go stays, as long as it has an intent; behind Back, or Settle of Gone, it is there no more.
func TestPruneOfWrittenRows(t *testing.T) {
	for _, end := range []string{"back", "gone", "row"} {
		s := newStore(t, 2)
		added(t, s, 1, on(0, 5), 0)
		settled(t, s, 1, 4, 1)
		written(t, s, 0, 1, goneOn(0), 4)
		settled(t, s, 1, 6, 1)
		written(t, s, 0, 2, on(0, 8), 6)
		if n, gone := s.Prune(6); n != 2 || len(gone) != 0 {
			t.Errorf("Prune = %d, %v, want 2", n, gone)
		}
		holds(t, s, 0, "()", "(of 2: [8] on 0 )")
		sees(t, s, 0, 2, 6, "[8]")
		sees(t, s, 0, 1, 6, "-")
		wants(t, "Slots", len(s.Slots()), 1)
		left := 0
		switch end {
		case "back":
			if gone := s.Back(2, 0); !slices.Equal(gone, []int{0}) {
				t.Errorf("Back = %v, want 0", gone)
			}
		case "gone":
			written(t, s, 0, 2, goneOn(0), 0)
			settled(t, s, 2, 7, 1)
		default:
			settled(t, s, 2, 1, 1) // no version is newer any more
			holds(t, s, 0, "([8]@1 )", nobody)
			left = 1
		}
		wants(t, "Slots behind "+end, len(s.Slots()), left)
	}
}

// So6: Prune at each floor of rows of all lives.
func TestPruneAtEachFloor(t *testing.T) {
	for _, floor := range []uint64{0, 1, 2, 3, 4, 5, 6, 7, 8, 9, 10, api.MaxStamp, math.MaxUint64} {
		s, p := newStore(t, 243), newPlain(243)
		for _, r := range []rows{s, p} {
			lives(t, r)
		}
		for range 2 {
			n, gone := s.Prune(floor)
			wantN, wantGone := p.Prune(floor)
			if n != wantN || !slices.Equal(gone, wantGone) {
				t.Fatalf("Prune(%d) = %d, %v, want %d, %v", floor, n, gone, wantN, wantGone)
			}
			if told, want := shown(s, 243, 1, []uint64{floor}), shown(p, 243, 1, []uint64{floor}); told != want {
				t.Fatalf("behind Prune(%d) there is\n%s want\n%s", floor, told, want)
			}
		}
	}
}

// lives gives each of 243 rows, at each of the stamps 2, 4, 6 and 8, nothing, a row or that it is gone, by the digits of its slot; transaction 9 writes each third one in the end.
func lives(t *testing.T, r rows) {
	t.Helper()
	for slot := range 243 {
		added(t, r, 1, on(0, int64(slot)), slot)
	}
	settled(t, r, 1, 1, 243)
	for digit, stamp := 1, uint64(2); stamp <= 8; digit, stamp = digit*3, stamp+2 {
		for slot := range 243 {
			switch slot / digit % 3 {
			case 1:
				written(t, r, slot, 1, on(0, int64(slot)+int64(stamp)*1000), stamp)
			case 2:
				written(t, r, slot, 1, goneOn(0), stamp)
			}
		}
		settled(t, r, 1, stamp, 162)
	}
	for slot := 0; slot < 243; slot += 3 {
		written(t, r, slot, 9, on(0, 99), 9)
	}
}
