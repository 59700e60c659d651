package store_test

import (
	"runtime"
	"slices"
	"strings"
	"testing"

	"vellum/api"
	"vellum/lit"
)

// roomy is a row with room behind its end, in which something lies.
func roomy(n int64) []api.Value {
	return []api.Value{lit.Int(n), lit.Text("x"), lit.Int(-n), lit.Int(77)}[:2]
}

// soil writes into all of a list's memory, with the room behind its end.
func soil[T any](l []T, with T) {
	l = l[:cap(l)]
	for i := range l {
		l[i] = with
	}
}

func soilRow(row []api.Value) { soil(row, lit.Text("soiled")) }

func soilVersions(l []api.Version) {
	for _, v := range l {
		soilRow(v.Row)
	}
	soil(l, api.Version{Stamp: 1234})
}

func soilIntent(in api.Intent) {
	for _, w := range in.Writes {
		soilRow(w.Row)
	}
	soil(in.Writes, api.Write{Level: 1234})
}

// R3: what is handed in is not changed, nor what lies behind its end, and not kept.
func TestArgumentsAreNotKept(t *testing.T) {
	s := newStore(t, 2)
	row := roomy(1)
	was := slices.Clone(row[:4])
	added(t, s, 1, api.Write{Row: row}, 0)
	added(t, s, 1, api.Write{Row: row}, 1)
	written(t, s, 0, 1, api.Write{Level: 2, Row: row}, 0)
	wants(t, "Write of one that is refused", s.Write(0, 1, api.Write{Level: 1, Row: row}, 0), api.ErrArg)
	s.Fold(1, 2)
	if !slices.Equal(row[:4], was) {
		t.Errorf("the row is %v, was %v", row[:4], was)
	}
	soilRow(row)
	holds(t, s, 0, "()", "(of 1: [1]['x'] on 0 [1]['x'] on 1 )")
	holds(t, s, 1, "()", "(of 1: [1]['x'] on 0 )")
	settled(t, s, 1, 3, 2)
	soilRow(row)
	holds(t, s, 0, "([1]['x']@3 )", nobody)
	sees(t, s, 0, 0, 3, "[1]['x']")
}

// R3: whoever soils what was told changes nothing of the store; no two lists of an answer share memory.
func TestAnswersAreCopies(t *testing.T) {
	s := newStore(t, 3)
	for slot := range 3 {
		added(t, s, 1, api.Write{Row: roomy(int64(slot))}, slot)
	}
	settled(t, s, 1, 3, 3)
	for slot := range 3 {
		written(t, s, slot, 1, api.Write{Row: roomy(int64(slot + 10))}, 3)
	}
	settled(t, s, 1, 5, 3)
	for slot := range 2 {
		written(t, s, slot, 1, api.Write{Row: roomy(int64(slot + 20))}, 5)
		written(t, s, slot, 1, api.Write{Level: 1, Row: roomy(int64(slot + 30))}, 5)
	}
	all := func() string { return shown(s, 3, 2, []uint64{2, 3, 4, 5}) }
	was := all()
	for slot := range 3 {
		for txn := range 2 {
			for _, stamp := range []uint64{3, 5} {
				row, _ := s.Read(slot, txn, stamp)
				soilRow(row)
			}
		}
		l, again := s.Versions(slot), s.Versions(slot)
		soilVersions(l)
		if shownVersions(again) != shownVersions(s.Versions(slot)) {
			t.Errorf("two answers of Versions share memory")
		}
		soilIntent(s.Intent(slot))
	}
	soil(s.Slots(), 99)
	if is := all(); is != was {
		t.Errorf("behind the soiling there is\n%s was\n%s", is, was)
	}
	l := s.Versions(0)
	soilRow(l[0].Row)
	wants(t, "the other version's row", shownRow(false, l[1].Row), "[0]['x']")
	in := s.Intent(0)
	soilRow(in.Writes[0].Row)
	wants(t, "the other write's row", shownRow(false, in.Writes[1].Row), "[30]['x']")
	soil(s.Back(1, 0), 99)
	written(t, s, 0, 1, goneOn(0), 5)
	settled(t, s, 1, 6, 1)
	_, gone := s.Prune(6)
	soil(gone, 99)
	if l := s.Slots(); !slices.Equal(l, []int{1, 2}) {
		t.Errorf("Slots = %v, want 1, 2", l)
	}
}

// R3: what was told stays as it was told, whatever comes behind it.
func TestAnswersStay(t *testing.T) {
	s := newStore(t, 2)
	added(t, s, 1, on(0, 5), 0)
	settled(t, s, 1, 3, 1)
	written(t, s, 0, 1, on(0, 6), 3)
	written(t, s, 0, 1, on(1, 7), 3)
	l, in, slots := s.Versions(0), s.Intent(0), s.Slots()
	mine, _ := s.Read(0, 1, 3)
	theirs, _ := s.Read(0, 2, 3)
	written(t, s, 0, 1, on(1, 8), 3)
	added(t, s, 2, on(0, 9), 1)
	s.Fold(1, 1)
	settled(t, s, 1, 4, 1)
	written(t, s, 0, 2, goneOn(0), 4)
	settled(t, s, 2, 5, 2)
	s.Prune(5)
	wants(t, "Versions", shownVersions(l), "([5]@3 )")
	wants(t, "Intent", shownIntent(in), "(of 1: [6] on 0 [7] on 1 )")
	wants(t, "Read", shownRow(false, mine)+shownRow(false, theirs), "[7][5]")
	if !slices.Equal(slots, []int{0}) {
		t.Errorf("Slots are %v", slots)
	}
}

// R4: stores know nothing of one another.
func TestStoresAreApart(t *testing.T) {
	a, b := newStore(t, 2), newStore(t, 2)
	added(t, a, 1, on(0, 5), 0)
	added(t, b, 1, on(0, 6), 0)
	added(t, b, 2, on(0, 7), 1)
	settled(t, a, 1, 3, 1)
	holds(t, b, 0, "()", "(of 1: [6] on 0 )")
	if gone := b.Back(1, 0); !slices.Equal(gone, []int{0}) {
		t.Errorf("Back = %v", gone)
	}
	settled(t, a, 2, 4, 0)
	holds(t, a, 0, "([5]@3 )", nobody)
	holds(t, b, 1, "()", "(of 2: [7] on 0 )")
}

// What a row was is not kept: neither behind its writes, nor behind Back, nor behind Prune.
func TestWhatWasIsNotKept(t *testing.T) {
	const size, often = 1 << 16, 2000
	s := newStore(t, 2)
	big := func(n int) api.Write {
		return api.Write{Row: []api.Value{lit.Text(strings.Repeat(string(rune('a'+n%26)), size))}}
	}
	added(t, s, 1, on(0, 1), 0)
	settled(t, s, 1, 1, 1)
	added(t, s, 1, on(0, 1), 1)
	for n := range often {
		written(t, s, 1, 1, big(n), 0)
		written(t, s, 0, 2, big(n), uint64(n+1))
		s.Back(2, 0)
		written(t, s, 0, 2, big(n), uint64(n+1))
		settled(t, s, 2, uint64(n+2), 1)
		if went, _ := s.Prune(uint64(n + 2)); went != 1 {
			t.Fatalf("%d versions went, want 1", went)
		}
	}
	runtime.GC()
	var is runtime.MemStats
	runtime.ReadMemStats(&is)
	if is.HeapAlloc > often*size/4 {
		t.Errorf("%d bytes are held, of two rows of %d", is.HeapAlloc, size)
	}
	wants(t, "Versions", len(s.Versions(0)), 1)
}
