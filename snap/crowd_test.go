package snap_test

import (
	"cmp"
	"math"
	"runtime"
	"slices"
	"testing"
	"time"

	"vellum/api"
	"vellum/snap"
)

// placed is an operation of a crowd, the list that it is of, and what it was told.
type placed struct {
	list int
	op   api.SnapOp
	done api.SnapDone
}

// crowd is a Crowd that must be let, and holds what Sn3 to Sn5 say of all crowds: done one behind the other by At, all is told as the plain ones tell it, and left as they leave it.
func crowd(t *testing.T, floor uint64, l [][]api.SnapOp) ([][]api.SnapDone, []api.Reader, uint64) {
	t.Helper()
	told, readers, end, err := snap.Crowd(floor, l)
	if err != api.OK || len(told) != len(l) {
		t.Fatalf("Crowd of %d lists: %d answers, error %d", len(l), len(told), err)
	}
	p, own, was := newPlain(floor), make([][]int, len(l)), floor
	for i, x := range inOrder(t, l, told) {
		if x.done.At != uint64(i+1) {
			t.Fatalf("place %d stands where %d should", x.done.At, i+1)
		}
		n, err := p.do(x.op, &own[x.list])
		if x.done.N != n || x.done.Err != err {
			t.Fatalf("list %d, at %d: %+v was told %d, %d, want %d, %d", x.list, i+1, x.op, x.done.N, x.done.Err, n, err)
		}
		if least, some := p.least(); p.floor < was || some && least < p.floor {
			t.Fatalf("at %d the floor is %d, was %d, least %d", i+1, p.floor, was, least)
		}
		was = p.floor
	}
	if !slices.Equal(readers, p.readers()) || end != p.floor {
		t.Fatalf("at the end %v, floor %d, want %v, %d", readers, end, p.readers(), p.floor)
	}
	return told, readers, end
}

// inOrder is all operations of a crowd by their places; those of a list must stand in its order.
func inOrder(t *testing.T, l [][]api.SnapOp, told [][]api.SnapDone) []placed {
	t.Helper()
	var all []placed
	for i := range l {
		if len(told[i]) != len(l[i]) {
			t.Fatalf("list %d of %d operations was told %d things", i, len(l[i]), len(told[i]))
		}
		at := uint64(0)
		for k, done := range told[i] {
			if done.At <= at {
				t.Fatalf("list %d: place %d behind %d", i, done.At, at)
			}
			at = done.At
			all = append(all, placed{i, l[i][k], done})
		}
	}
	slices.SortFunc(all, func(a, b placed) int { return cmp.Compare(a.done.At, b.done.At) })
	return all
}

// do does an operation of a list, whose Enters that were not refused told own: -1, where it left that.
func (p *plain) do(op api.SnapOp, own *[]int) (uint64, api.Errno) {
	switch op.Kind {
	case 1:
		slot, err := p.enter(op.Stamp)
		if err == 0 {
			*own = append(*own, slot)
		}
		return uint64(slot), err
	case 2:
		if op.I < 0 || op.I >= len(*own) || (*own)[op.I] == -1 {
			return 0, 100
		}
		slot := (*own)[op.I]
		(*own)[op.I] = -1
		return 0, p.leave(slot)
	case 3:
		return p.raise(op.Stamp), 0
	}
	least, some := p.least()
	if !some {
		return 0, 5
	}
	return least, 0
}

func entering(stamp uint64) api.SnapOp { return api.SnapOp{Kind: api.SnapEnter, Stamp: stamp} }
func leaving(i int) api.SnapOp         { return api.SnapOp{Kind: api.SnapLeave, I: i} }
func raising(to uint64) api.SnapOp     { return api.SnapOp{Kind: api.SnapRaise, Stamp: to} }
func asking() api.SnapOp               { return api.SnapOp{Kind: api.SnapLeast} }

// mixed is lists of so many operations each, of all kinds, as chance has them; of readers few or many stay, as stay says (of 16).
func mixed(lists, size int, stay uint64) [][]api.SnapOp {
	l := make([][]api.SnapOp, lists)
	r := uint64(lists*size) + stay
	for i := range l {
		entered := 0
		for k := range size {
			r = next(r)
			switch r >> 60 {
			case 0:
				l[i] = append(l[i], raising(uint64(k)+r>>40%8))
			case 1, 2:
				l[i] = append(l[i], asking())
			case 3:
				l[i] = append(l[i], leaving(int(r>>40%64)-8))
			default:
				if r>>56%16 < stay || entered == 0 {
					entered++
					l[i] = append(l[i], entering(uint64(k)+r>>40%16))
				} else {
					l[i] = append(l[i], leaving(entered-1-int(r>>40%3)))
				}
			}
		}
	}
	return l
}

// Sn3: what a crowd of one list is told is what one caller is: by the numbers of the document.
func TestCrowdOfOne(t *testing.T) {
	ops := []api.SnapOp{
		asking(), leaving(0), entering(4), leaving(0), entering(9), entering(7), asking(), raising(8), entering(6),
		leaving(2), leaving(-1), leaving(1), leaving(1), raising(20), entering(1<<62 + 1), entering(9), leaving(2), leaving(0), asking(), raising(1 << 63), entering(1 << 62), entering(1<<62 - 1),
	}
	want := []api.SnapDone{
		{N: 0, Err: api.ErrNone}, {Err: api.ErrSlot}, {Err: api.ErrLow}, {Err: api.ErrSlot}, {N: 0}, {N: 1}, {N: 7}, {N: 7}, {Err: api.ErrLow},
		{Err: api.ErrSlot}, {Err: api.ErrSlot}, {}, {Err: api.ErrSlot}, {N: 9}, {Err: api.ErrArg}, {N: 1}, {}, {}, {Err: api.ErrNone}, {N: 1 << 62}, {N: 0}, {Err: api.ErrLow},
	}
	for i := range want {
		want[i].At = uint64(i + 1)
	}
	told, readers, floor, err := snap.Crowd(5, [][]api.SnapOp{ops})
	if err != api.OK || len(told) != 1 || !slices.Equal(told[0], want) {
		t.Errorf("Crowd = %v, %d, want %v", told, err, want)
	}
	if !slices.Equal(readers, []api.Reader{{Slot: 0, Stamp: 1 << 62}}) || floor != 1<<62 {
		t.Errorf("at the end %v, floor %d", readers, floor)
	}
}

// Sn3: fields of an operation that its kind does not name do not matter.
func TestCrowdOtherFields(t *testing.T) {
	ops := []api.SnapOp{
		{Kind: api.SnapEnter, Stamp: 3, I: -7}, {Kind: api.SnapLeast, Stamp: math.MaxUint64, I: 99}, {Kind: api.SnapRaise, Stamp: 2, I: math.MinInt}, {Kind: api.SnapLeave, Stamp: math.MaxUint64, I: 0},
	}
	want := []api.SnapDone{{At: 1}, {At: 2, N: 3}, {At: 3, N: 2}, {At: 4}}
	if told, _, _ := crowd(t, 1, [][]api.SnapOp{ops}); !slices.Equal(told[0], want) {
		t.Errorf("Crowd = %v, want %v", told, want)
	}
}

// Sn3: I counts the Enters of a list's own that were not refused, and no others; who has left a reader does not leave the one that is in its slot since, its own or another one's.
func TestCrowdLeavesItsOwn(t *testing.T) {
	low := entering(0)
	alone := []api.SnapOp{entering(5), leaving(0), entering(6), leaving(0), leaving(1), leaving(1), low, entering(7), leaving(2), leaving(3), leaving(math.MaxInt), leaving(math.MinInt), entering(8)}
	told, readers, _ := crowd(t, 1, [][]api.SnapOp{alone})
	var errs []api.Errno
	for _, done := range told[0] {
		errs = append(errs, done.Err)
	}
	if !slices.Equal(errs, []api.Errno{0, 0, 0, 100, 0, 100, 101, 0, 0, 100, 100, 100, 0}) || !slices.Equal(readers, []api.Reader{{Slot: 0, Stamp: 8}}) {
		t.Errorf("Crowd = %v, %v", told, readers)
	}
	one := []api.SnapOp{leaving(0), entering(5), leaving(0), leaving(0), leaving(0), leaving(0)}
	other := []api.SnapOp{entering(6), asking(), asking(), asking(), entering(7), leaving(1), leaving(1), leaving(1)}
	for range 300 {
		_, readers, _ := crowd(t, 1, [][]api.SnapOp{one, other, one, {leaving(0), leaving(1)}})
		if len(readers) != 1 || readers[0].Stamp != 6 {
			t.Fatalf("at the end %v", readers)
		}
	}
}

// Sn3: no lists, and lists of nothing.
func TestCrowdOfNothing(t *testing.T) {
	for _, floor := range []uint64{0, 1, 1<<62 - 1, 1 << 62} {
		for _, l := range [][][]api.SnapOp{nil, {}, {nil}, {{}, nil, {}}, make([][]api.SnapOp, 64)} {
			if _, readers, end := crowd(t, floor, l); len(readers) != 0 || end != floor {
				t.Errorf("Crowd(%d) of nothing: %v, floor %d", floor, readers, end)
			}
		}
	}
}

// Sn3 to Sn5: crowds of many sizes and mixtures, held against some order of their steps, which they tell.
func TestCrowdsThatMeet(t *testing.T) {
	for _, size := range [][2]int{{1, 500}, {2, 2}, {2, 1000}, {3, 300}, {8, 400}, {64, 1}, {64, 100}} {
		for _, stay := range []uint64{4, 8, 12, 15} {
			l := mixed(size[0], size[1], stay)
			for range 10 {
				crowd(t, 2, l)
			}
		}
	}
}

// Sn3, Sn5: crowds that go for the last slots: 64 times five more would enter than leave, so that all are taken at times.
func TestCrowdsThatFillAllSlots(t *testing.T) {
	l := make([][]api.SnapOp, 64)
	for i := range l {
		for n := range 8 {
			l[i] = append(l[i], entering(uint64(100+i)))
			if n > 4 {
				l[i] = append(l[i], asking(), leaving(n-5), entering(uint64(100-n)), raising(uint64(93+n)))
			}
		}
	}
	refused := 0
	for range 50 {
		told, readers, _ := crowd(t, 0, l)
		for _, done := range slices.Concat(told...) {
			if done.Err == api.ErrFull {
				refused++
			}
		}
		if len(readers) > 256 {
			t.Fatalf("%d readers", len(readers))
		}
	}
	if refused == 0 {
		t.Error("the slots were never all taken")
	}
}

// Sn5: nobody reads below the floor: some raise as far as they may while others enter and leave near it.
func TestCrowdsThatRaise(t *testing.T) {
	l := make([][]api.SnapOp, 8)
	for i := range l {
		for n := range 500 {
			if i < 2 {
				l[i] = append(l[i], raising(uint64(n+i)), asking())
			} else {
				l[i] = append(l[i], entering(uint64(n+i)), leaving(n-i%3))
			}
		}
	}
	for range 40 {
		crowd(t, 0, l)
	}
}

// Sn3: the goroutines of a crowd work side by side: sooner or later one's steps stand between another one's.
func TestCrowdsMingle(t *testing.T) {
	if runtime.GOMAXPROCS(0) == 1 {
		t.Skip("with one processor goroutines may run one behind the other")
	}
	l := slices.Repeat([][]api.SnapOp{slices.Repeat([]api.SnapOp{entering(3), asking(), leaving(0)}, 300)}, 2)
	for range 5000 {
		told, _, _ := crowd(t, 0, l)
		if one, two := told[0], told[1]; one[0].At < two[899].At && two[0].At < one[899].At {
			return
		}
	}
	t.Error("in 5000 crowds the lists came one behind the other")
}

// Sn3, R2: each error alone, and of several the one that is named first, with nothing beside it.
func TestCrowdRefuses(t *testing.T) {
	kind := func(kind int) [][]api.SnapOp {
		return [][]api.SnapOp{{entering(3)}, nil, {asking(), {Kind: kind, Stamp: 1}}}
	}
	many := make([][]api.SnapOp, 65)
	long := slices.Repeat([]api.SnapOp{asking()}, 65537)
	tests := []struct {
		floor uint64
		l     [][]api.SnapOp
		want  api.Errno
	}{
		{1<<62 + 1, nil, api.ErrArg},
		{1 << 63, nil, api.ErrArg},
		{math.MaxUint64, kind(1), api.ErrArg},
		{0, kind(0), api.ErrArg},
		{0, kind(5), api.ErrArg},
		{0, kind(-1), api.ErrArg},
		{0, kind(1<<32 + 1), api.ErrArg},
		{0, kind(math.MinInt), api.ErrArg},
		{0, kind(math.MaxInt), api.ErrArg},
		{0, [][]api.SnapOp{{{}}}, api.ErrArg},
		{0, many, api.ErrArg},
		{0, make([][]api.SnapOp, 1000), api.ErrArg},
		{0, slices.Repeat([][]api.SnapOp{{entering(1)}}, 65), api.ErrArg},
		{0, [][]api.SnapOp{long}, api.ErrFull},
		{1 << 62, [][]api.SnapOp{long}, api.ErrFull},
		{0, [][]api.SnapOp{long[:65536], long[:1]}, api.ErrFull},
		{0, [][]api.SnapOp{long[:1], nil, long[:65536]}, api.ErrFull},
		{0, [][]api.SnapOp{long[:40000], long[:25537]}, api.ErrFull},
		{0, slices.Repeat([][]api.SnapOp{long[:1025]}, 64), api.ErrFull},
		{1<<62 + 1, [][]api.SnapOp{long}, api.ErrArg},
		{0, append([][]api.SnapOp{long}, kind(0)...), api.ErrArg},
		{0, append(kind(9), long), api.ErrArg},
		{0, [][]api.SnapOp{append(slices.Clone(long), api.SnapOp{Kind: 5})}, api.ErrArg},
		{0, slices.Repeat([][]api.SnapOp{long[:1025]}, 65), api.ErrArg},
	}
	for i, x := range tests {
		if told, readers, floor, err := snap.Crowd(x.floor, x.l); err != x.want || len(told) != 0 || len(readers) != 0 || floor != 0 {
			t.Errorf("%d: Crowd(%d) of %d lists: %d answers, %v, floor %d, error %d, want error %d alone", i, x.floor, len(x.l), len(told), readers, floor, err, x.want)
		}
	}
}

// Sn3: the limits themselves are let: 64 lists, 65536 operations, and the last stamp as the floor.
func TestCrowdAtItsLimits(t *testing.T) {
	long := slices.Repeat([]api.SnapOp{entering(1 << 62), leaving(0), asking(), raising(1 << 62)}, 16384)
	crowd(t, 1<<62, [][]api.SnapOp{long})
	crowd(t, 0, [][]api.SnapOp{long[:65535], nil, long[:1]})
	crowd(t, 7, slices.Repeat([][]api.SnapOp{long[:1024]}, 64))
	crowd(t, 1<<62, slices.Repeat([][]api.SnapOp{long[:1]}, 64))
}

// R3: what is handed in is not changed, nor what lies behind its end; and the lists of an answer are memory of their own.
func TestCrowdSharesNothing(t *testing.T) {
	room, was := mixed(4, 40, 12), mixed(4, 40, 12)
	l := [][]api.SnapOp{room[0][:10], room[1][:0], room[2], room[3]}
	for range 20 {
		told, readers, _ := crowd(t, 2, l[:3])
		kept, keptReaders := slices.Clone(told[2]), slices.Clone(readers)
		again, _, _ := crowd(t, 2, l[:3])
		for _, done := range [][]api.SnapDone{told[0], told[1], again[0], again[1], again[2]} {
			done = done[:cap(done)]
			for i := range done {
				done[i] = api.SnapDone{At: 99, N: 99, Err: 99}
			}
		}
		if !slices.Equal(told[2], kept) || !slices.Equal(readers, keptReaders) {
			t.Fatal("lists of answers share memory")
		}
	}
	for i := range room {
		if !slices.Equal(room[i], was[i]) {
			t.Errorf("list %d is now %v", i, room[i])
		}
	}
	if !slices.Equal(l[3], was[3]) || len(l[1]) != 0 {
		t.Errorf("the lists are now %v", l)
	}
}

// R3: lists that are one and the same memory are gone through side by side.
func TestCrowdOfOneListManyTimes(t *testing.T) {
	for range 20 {
		crowd(t, 3, slices.Repeat(mixed(1, 200, 10), 16))
	}
}

// R4: crowds that run at one time do not know of one another.
func TestCrowdsSideBySide(t *testing.T) {
	together(8, func(w int) {
		l := make([][]api.SnapOp, w+1)
		l[w] = []api.SnapOp{entering(uint64(w + 5)), raising(99), entering(uint64(w + 6)), leaving(0)}
		want := []api.SnapDone{{At: 1}, {At: 2, N: uint64(w + 5)}, {At: 3, N: 1}, {At: 4}}
		for range 200 {
			told, readers, floor, err := snap.Crowd(uint64(w), l)
			if err != api.OK || !slices.Equal(told[w], want) || !slices.Equal(readers, []api.Reader{{Slot: 1, Stamp: uint64(w + 6)}}) || floor != uint64(w+5) {
				t.Errorf("Crowd = %v, %v, %d, %d", told, readers, floor, err)
			}
		}
	})
}

// Sn3, Ways: when a crowd answers, all its goroutines have ended.
func TestCrowdLeavesNoGoroutine(t *testing.T) {
	was := runtime.NumGoroutine()
	for range 20 {
		crowd(t, 0, mixed(64, 64, 10))
	}
	// A goroutine that is done is counted until it is off its stack: so it may take a moment.
	for range 1000 {
		if runtime.NumGoroutine() <= was {
			return
		}
		time.Sleep(time.Millisecond)
	}
	t.Errorf("%d goroutines, were %d", runtime.NumGoroutine(), was)
}
