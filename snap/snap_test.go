package snap_test

import (
	"math"
	"slices"
	"testing"

	"vellum/api"
	"vellum/snap"
)

// plain is readers as one caller sees them: the words of the chapter, one by one.
type plain struct {
	floor uint64
	there map[int]uint64
}

func newPlain(floor uint64) *plain { return &plain{floor, map[int]uint64{}} }

func (p *plain) enter(stamp uint64) (int, api.Errno) {
	if stamp > 1<<62 {
		return 0, 1
	}
	if stamp < p.floor {
		return 0, 101
	}
	for slot := range 256 {
		if _, taken := p.there[slot]; !taken {
			p.there[slot] = stamp
			return slot, 0
		}
	}
	return 0, 2
}

func (p *plain) leave(slot int) api.Errno {
	if _, taken := p.there[slot]; !taken {
		return 100
	}
	delete(p.there, slot)
	return 0
}

func (p *plain) least() (uint64, bool) {
	least := uint64(math.MaxUint64)
	for _, stamp := range p.there {
		least = min(least, stamp)
	}
	if len(p.there) == 0 {
		return 0, false
	}
	return least, true
}

func (p *plain) raise(to uint64) uint64 {
	if to > 1<<62 {
		to = 1 << 62
	}
	if least, some := p.least(); some && least < to {
		to = least
	}
	if to > p.floor {
		p.floor = to
	}
	return p.floor
}

func (p *plain) readers() []api.Reader {
	var l []api.Reader
	for slot := range 256 {
		if stamp, taken := p.there[slot]; taken {
			l = append(l, api.Reader{Slot: slot, Stamp: stamp})
		}
	}
	return l
}

func newSnaps(t *testing.T, floor uint64) *snap.Snaps {
	t.Helper()
	s, err := snap.New(floor)
	if err != api.OK || s == nil {
		t.Fatalf("New(%d) = %v, %d, want readers", floor, s, err)
	}
	return s
}

// shows holds all that is told of readers against the plain ones; and Sn4: nobody is below the floor, and no slot is taken twice.
func shows(t *testing.T, s *snap.Snaps, p *plain) {
	t.Helper()
	least, some := s.Least()
	if want, wantSome := p.least(); least != want || some != wantSome {
		t.Fatalf("Least = %d, %v, want %d, %v", least, some, want, wantSome)
	}
	readers := s.Readers()
	if s.Floor() != p.floor || !slices.Equal(readers, p.readers()) {
		t.Fatalf("Floor %d, Readers %v, want %d, %v", s.Floor(), readers, p.floor, p.readers())
	}
	for i, r := range readers {
		if r.Stamp < s.Floor() || r.Slot < 0 || r.Slot > 255 || i > 0 && readers[i-1].Slot >= r.Slot {
			t.Fatalf("Floor %d, Readers %v", s.Floor(), readers)
		}
	}
}

// enter, leave and raise do a call on both, which must be told the same.
func enter(t *testing.T, s *snap.Snaps, p *plain, stamp uint64) {
	t.Helper()
	slot, err := s.Enter(stamp)
	if want, wantErr := p.enter(stamp); slot != want || err != wantErr {
		t.Fatalf("Enter(%d) = %d, %d, want %d, %d", stamp, slot, err, want, wantErr)
	}
}

func leave(t *testing.T, s *snap.Snaps, p *plain, slot int) {
	t.Helper()
	if err, want := s.Leave(slot), p.leave(slot); err != want {
		t.Fatalf("Leave(%d) = %d, want %d", slot, err, want)
	}
}

func raise(t *testing.T, s *snap.Snaps, p *plain, to uint64) {
	t.Helper()
	was := s.Floor()
	floor := s.Raise(to)
	if want := p.raise(to); floor != want || floor < was {
		t.Fatalf("Raise(%d) = %d, want %d, the floor was %d", to, floor, want, was)
	}
}

// step does one of the calls on both; n is a stamp or a slot.
func step(t *testing.T, s *snap.Snaps, p *plain, kind int, n uint64) {
	t.Helper()
	switch kind {
	case 0:
		enter(t, s, p, n)
	case 1:
		leave(t, s, p, int(n))
	default:
		raise(t, s, p, n)
	}
}

// next is the next one of a row of numbers that looks like chance.
func next(r uint64) uint64 { return r*6364136223846793005 + 1442695040888963407 }

// The stamps that the chapter tells apart.
func stamps() []uint64 {
	return []uint64{0, 1, 2, 3, 5, 1 << 32, 1<<62 - 1, 1 << 62, 1<<62 + 1, 1<<62 + 2, 1 << 63, math.MaxUint64 - 1, math.MaxUint64}
}

// Sn1, Sn2: the chapter's first example, by its own numbers.
func TestExample(t *testing.T) {
	s := newSnaps(t, 5)
	enters := func(stamp uint64, want int, wantErr api.Errno) {
		t.Helper()
		if slot, err := s.Enter(stamp); slot != want || err != wantErr {
			t.Fatalf("Enter(%d) = %d, %d, want %d, %d", stamp, slot, err, want, wantErr)
		}
	}
	raises := func(to, want uint64) {
		t.Helper()
		if floor := s.Raise(to); floor != want || s.Floor() != want {
			t.Fatalf("Raise(%d) = %d, Floor %d, want %d", to, floor, s.Floor(), want)
		}
	}
	enters(4, 0, api.ErrLow)
	enters(9, 0, api.OK)
	enters(7, 1, api.OK)
	if least, some := s.Least(); least != 7 || !some {
		t.Fatalf("Least = %d, %v", least, some)
	}
	raises(8, 7)
	enters(6, 0, api.ErrLow)
	if one, two := s.Leave(1), s.Leave(1); one != api.OK || two != api.ErrSlot {
		t.Fatalf("Leave(1), twice: %d, %d", one, two)
	}
	raises(20, 9)
	enters(9, 1, api.OK)
	if l := s.Readers(); !slices.Equal(l, []api.Reader{{Slot: 0, Stamp: 9}, {Slot: 1, Stamp: 9}}) {
		t.Fatalf("Readers = %v", l)
	}
}

// Sn2: the chapter's second example.
func TestExampleOfNobody(t *testing.T) {
	s := newSnaps(t, 0)
	if least, some := s.Least(); least != 0 || some {
		t.Errorf("Least = %d, %v", least, some)
	}
	if one, two := s.Raise(20), s.Raise(3); one != 20 || two != 20 || s.Floor() != 20 {
		t.Errorf("Raise(20), Raise(3) = %d, %d, Floor %d", one, two, s.Floor())
	}
}

// Sn1: New refuses what is above 2^62, with nothing beside the error, and lets all else: nobody is there, and the floor is as it says.
func TestNew(t *testing.T) {
	for _, floor := range stamps() {
		s, err := snap.New(floor)
		if floor > 1<<62 {
			if s != nil || err != api.ErrArg {
				t.Errorf("New(%d) = %v, %d, want nil, ErrArg", floor, s, err)
			}
			continue
		}
		if s == nil || err != api.OK {
			t.Fatalf("New(%d) = %v, %d", floor, s, err)
		}
		shows(t, s, newPlain(floor))
	}
}

// Sn2: of what New did not give, ErrArg, 0, false, nothing, whatever is asked and however often.
func TestNotGiven(t *testing.T) {
	for _, s := range []*snap.Snaps{nil, {}, new(snap.Snaps)} {
		for _, n := range stamps() {
			slot, err := s.Enter(n)
			if slot != 0 || err != api.ErrArg || s.Leave(int(n)) != api.ErrArg || s.Leave(0) != api.ErrArg {
				t.Errorf("Enter = %d, %d, Leave: %d", slot, err, s.Leave(0))
			}
			least, some := s.Least()
			if least != 0 || some || s.Raise(n) != 0 || s.Floor() != 0 || len(s.Readers()) != 0 {
				t.Errorf("Least = %d, %v, Raise %d, Floor %d, Readers %v", least, some, s.Raise(n), s.Floor(), s.Readers())
			}
		}
	}
}

// Sn1: each stamp at each floor: below it, at it, above it, and above all stamps; what is refused leaves all as it was.
func TestEnterAtEachFloor(t *testing.T) {
	for _, floor := range stamps()[:8] {
		for _, stamp := range stamps() {
			s, p := newSnaps(t, floor), newPlain(floor)
			enter(t, s, p, stamp)
			shows(t, s, p)
			enter(t, s, p, 1<<62)
			shows(t, s, p)
			enter(t, s, p, stamp)
			shows(t, s, p)
		}
	}
}

// full has all slots taken, at stamps from 7 on.
func full(t *testing.T, floor uint64) (*snap.Snaps, *plain) {
	t.Helper()
	s, p := newSnaps(t, floor), newPlain(floor)
	for n := range 256 {
		enter(t, s, p, 7+uint64(n*37%100))
	}
	return s, p
}

// Sn1, R2: of several errors the first one is told: no stamp, below the floor, and then that all slots are taken.
func TestEnterWhereAllSlotsAreTaken(t *testing.T) {
	s, p := full(t, 5)
	for range 3 {
		for stamp, want := range map[uint64]api.Errno{0: api.ErrLow, 4: api.ErrLow, 5: api.ErrFull, 6: api.ErrFull, 7: api.ErrFull, 1 << 62: api.ErrFull, 1<<62 + 1: api.ErrArg, math.MaxUint64: api.ErrArg} {
			if slot, err := s.Enter(stamp); slot != 0 || err != want {
				t.Errorf("Enter(%d) = %d, %d, want 0, %d", stamp, slot, err, want)
			}
		}
		shows(t, s, p)
	}
	for _, slot := range []int{255, 0, 17, 128} {
		leave(t, s, p, slot)
		shows(t, s, p)
		enter(t, s, p, 50)
		shows(t, s, p)
		if got, err := s.Enter(50); got != 0 || err != api.ErrFull {
			t.Errorf("Enter = %d, %d, want ErrFull", got, err)
		}
	}
}

// Sn1: readers take the least free slot, in whichever order the others were left.
func TestLeastFreeSlot(t *testing.T) {
	for _, size := range []uint64{1, 2, 3, 64, 65, 255} {
		s, p := full(t, 0)
		r := size
		for range 40 {
			for range size {
				r = next(r)
				leave(t, s, p, int(r>>40%256))
			}
			for range size/2 + 1 {
				enter(t, s, p, r>>20)
			}
			shows(t, s, p)
		}
	}
}

// Sn1: a slot is left in any order, down to none and up again.
func TestAllLeave(t *testing.T) {
	for _, by := range []int{1, 3, 101, 255} {
		s, p := full(t, 2)
		for n := range 256 {
			leave(t, s, p, n*by%256)
			shows(t, s, p)
		}
		if l := s.Readers(); len(l) != 0 {
			t.Errorf("Readers = %v", l)
		}
		enter(t, s, p, 2)
		shows(t, s, p)
	}
}

// Sn1: slots that nobody is in, of whatever number, are told apart from those that somebody is in, however near to them in their lower bits.
func TestLeaveRefuses(t *testing.T) {
	empty, nobody := newSnaps(t, 3), newPlain(3)
	s, p := newSnaps(t, 3), newPlain(3)
	all, everybody := full(t, 3)
	for range 4 {
		enter(t, s, p, 9)
	}
	leave(t, s, p, 2)
	for _, slot := range []int{math.MinInt, math.MinInt + 1, -256, -255, -2, -1, 2, 4, 5, 255, 256, 257, 258, 1 << 32, 1<<32 + 1, 1 << 62, math.MaxInt} {
		if err := s.Leave(slot); err != api.ErrSlot {
			t.Errorf("Leave(%d) = %d, want ErrSlot", slot, err)
		}
		if err := empty.Leave(slot); err != api.ErrSlot {
			t.Errorf("Leave(%d) of nobody = %d, want ErrSlot", slot, err)
		}
		if err := all.Leave(slot); (slot < 0 || slot > 255) && err != api.ErrSlot {
			t.Errorf("Leave(%d) of all = %d, want ErrSlot", slot, err)
		} else {
			everybody.leave(slot)
		}
	}
	shows(t, empty, nobody)
	shows(t, s, p)
	shows(t, all, everybody)
}

// Sn2: the least stamp, wherever it stands, 0 and 2^62 among them, and as often as it is there.
func TestLeast(t *testing.T) {
	for _, l := range [][]uint64{{0}, {1 << 62}, {3, 2, 1}, {1, 2, 3}, {2, 1, 3}, {5, 5, 5}, {1 << 62, 0, 1 << 62}, {9, 1 << 40, 1<<40 - 1, 9}} {
		s, p := newSnaps(t, 0), newPlain(0)
		for _, stamp := range l {
			enter(t, s, p, stamp)
			if least, some := s.Least(); least != slices.Min(l[:len(s.Readers())]) || !some {
				t.Errorf("Least of %v = %d, %v", l[:len(s.Readers())], least, some)
			}
		}
		for slot := range l {
			shows(t, s, p)
			leave(t, s, p, slot)
		}
		shows(t, s, p)
	}
}

// Sn2: the floor rises to the least of what is asked for, 2^62 and the least reader, and never falls.
func TestRaise(t *testing.T) {
	tests := []struct {
		floor   uint64
		readers []uint64
		to      uint64
		want    uint64
	}{
		{5, nil, 0, 5},
		{5, nil, 4, 5},
		{5, nil, 5, 5},
		{5, nil, 6, 6},
		{5, nil, 1 << 62, 1 << 62},
		{5, nil, 1<<62 + 1, 1 << 62},
		{5, nil, math.MaxUint64, 1 << 62},
		{1 << 62, nil, math.MaxUint64, 1 << 62},
		{1 << 62, nil, 0, 1 << 62},
		{0, nil, 0, 0},
		{0, []uint64{0}, 9, 0},
		{5, []uint64{5}, 9, 5},
		{5, []uint64{8}, 7, 7},
		{5, []uint64{8}, 8, 8},
		{5, []uint64{8}, 9, 8},
		{5, []uint64{8}, math.MaxUint64, 8},
		{5, []uint64{8}, 4, 5},
		{5, []uint64{9, 6, 8}, 20, 6},
		{5, []uint64{9, 8, 6}, 20, 6},
		{5, []uint64{6, 8, 9}, 20, 6},
		{5, []uint64{1 << 62}, 1<<62 - 1, 1<<62 - 1},
		{5, []uint64{1 << 62}, math.MaxUint64, 1 << 62},
		{1 << 62, []uint64{1 << 62}, 3, 1 << 62},
	}
	for _, x := range tests {
		s, p := newSnaps(t, x.floor), newPlain(x.floor)
		for _, stamp := range x.readers {
			enter(t, s, p, stamp)
		}
		if got := s.Raise(x.to); got != x.want || s.Floor() != x.want {
			t.Errorf("floor %d, readers %v: Raise(%d) = %d, Floor %d, want %d", x.floor, x.readers, x.to, got, s.Floor(), x.want)
		}
		p.floor = x.want
		shows(t, s, p)
		raise(t, s, p, x.to)
		raise(t, s, p, 0)
		shows(t, s, p)
	}
}

// Sn1, Sn2: behind a Raise nobody enters below the floor, but at it; and who left lets the floor rise.
func TestRaiseAndEnter(t *testing.T) {
	s, p := newSnaps(t, 0), newPlain(0)
	for n := uint64(1); n <= 600; n++ {
		enter(t, s, p, n*10)
		if n > 3 {
			leave(t, s, p, int((n-4)%4))
		}
		raise(t, s, p, n*10)
		floor := s.Floor()
		if slot, err := s.Enter(floor - 1); slot != 0 || err != api.ErrLow {
			t.Fatalf("Enter(%d) below the floor = %d, %d", floor-1, slot, err)
		}
		enter(t, s, p, floor)
		leave(t, s, p, slices.Max(slots(s)))
		shows(t, s, p)
	}
}

func slots(s *snap.Snaps) []int {
	var l []int
	for _, r := range s.Readers() {
		l = append(l, r.Slot)
	}
	return l
}

// Sn1, Sn2, Sn4: every row of six calls, on stamps and slots from 0 to 2, told as the plain ones tell, and shown so at its end.
func TestAllRowsOfCalls(t *testing.T) {
	const kinds = 9
	for row := range kinds * kinds * kinds * kinds * kinds * kinds {
		s, p := newSnaps(t, 0), newPlain(0)
		n := row
		for range 6 {
			step(t, s, p, n%kinds/3, uint64(n%3))
			n /= kinds
		}
		shows(t, s, p)
	}
}

// Sn1, Sn2, Sn4: long runs of calls of all kinds, nearly full ones among them, held against the plain ones.
func TestRunsAgainstThePlainOnes(t *testing.T) {
	for turn, kinds := range [][]int{{0, 1, 2}, {0, 0, 0, 1, 1, 2}, {0, 0, 0, 0, 0, 0, 1, 1}, {0, 1, 1, 2}, {0, 0, 0, 0, 0, 0, 0, 0, 0, 0, 0, 1, 2}} {
		s, p, r := newSnaps(t, 40), newPlain(40), uint64(turn)
		for i := range 8000 {
			r = next(r)
			kind, n := kinds[r>>33%uint64(len(kinds))], r>>40%256
			if kind != 1 {
				n = p.floor + r>>45%12 - 2
			}
			if r>>60 == 0 {
				n = stamps()[r>>20%13]
			}
			if r>>60 == 0 && kind == 2 {
				n %= 50
			}
			step(t, s, p, kind, n)
			if i%20 == 0 {
				shows(t, s, p)
			}
		}
		shows(t, s, p)
	}
}

// R3: what Readers answers is new memory, its spare room too: no answer shares with another one, nor with what is kept.
func TestReadersIsNewMemory(t *testing.T) {
	s, p := newSnaps(t, 0), newPlain(0)
	for n := range uint64(5) {
		enter(t, s, p, n+10)
	}
	want := p.readers()
	one, two := s.Readers(), s.Readers()
	one = one[:cap(one)]
	for i := range one {
		one[i] = api.Reader{Slot: 99, Stamp: 99}
	}
	if !slices.Equal(two, want) {
		t.Errorf("two answers share memory: %v", two)
	}
	shows(t, s, p)
	leave(t, s, p, 1)
	enter(t, s, p, 77)
	enter(t, s, p, 78)
	leave(t, s, p, 0)
	if !slices.Equal(two, want) {
		t.Errorf("behind further calls an answer is %v", two)
	}
	shows(t, s, p)
}

// R4: readers know nothing of others.
func TestSnapsAreApart(t *testing.T) {
	a, p := newSnaps(t, 1), newPlain(1)
	b, q := newSnaps(t, 1), newPlain(1)
	enter(t, a, p, 5)
	enter(t, b, q, 3)
	enter(t, b, q, 9)
	raise(t, b, q, 9)
	shows(t, a, p)
	leave(t, b, q, 0)
	leave(t, a, p, 1)
	raise(t, a, p, 9)
	shows(t, a, p)
	shows(t, b, q)
}
