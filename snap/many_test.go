package snap_test

import (
	"runtime"
	"slices"
	"sync"
	"sync/atomic"
	"testing"

	"vellum/api"
	"vellum/snap"
)

// together runs so many workers at one time, which all begin when the last one is there.
func together(workers int, work func(worker int)) {
	var ready, all sync.WaitGroup
	ready.Add(workers)
	for w := range workers {
		all.Go(func() {
			ready.Done()
			ready.Wait()
			work(w)
		})
	}
	all.Wait()
}

// beside runs one thing again and again, while another one runs once.
func beside(again func(turn uint64), once func()) {
	var stop atomic.Bool
	var other sync.WaitGroup
	other.Go(func() {
		for turn := uint64(0); !stop.Load(); turn++ {
			again(turn)
			if turn%64 == 0 {
				runtime.Gosched()
			}
		}
	})
	once()
	stop.Store(true)
	other.Wait()
}

// Sn1, Sn4: many enter at one time till it is full: just 256 are let, each slot once; all others are told ErrFull.
func TestManyEnter(t *testing.T) {
	for range 50 {
		s := newSnaps(t, 3)
		var lists [16][]api.Reader
		together(len(lists), func(w int) {
			slot, err := s.Enter(uint64(w + 3))
			for ; err == api.OK; slot, err = s.Enter(uint64(w + 3)) {
				if l := lists[w]; len(l) > 0 && l[len(l)-1].Slot >= slot {
					t.Errorf("slot %d behind %v", slot, l)
				}
				lists[w] = append(lists[w], api.Reader{Slot: slot, Stamp: uint64(w + 3)})
			}
			if err != api.ErrFull || slot != 0 {
				t.Errorf("Enter = %d, %d, want ErrFull", slot, err)
			}
		})
		all := slices.Concat(lists[:]...)
		slices.SortFunc(all, func(a, b api.Reader) int { return a.Slot - b.Slot })
		if len(all) != 256 || all[0].Slot != 0 || all[255].Slot != 255 || !slices.Equal(s.Readers(), all) {
			t.Fatalf("entered are %v, there are %v", all, s.Readers())
		}
	}
}

// Sn1, Sn4: no two are in a slot at one time; nobody is told ErrFull while there is room; and the least free slot is taken: 16 that have 16 readers each, at most, never come above slot 255, 4 that have one each never above slot 3.
func TestManyEnterAndLeave(t *testing.T) {
	for _, size := range [][2]int{{16, 16}, {4, 1}, {8, 3}} {
		s := newSnaps(t, 0)
		var owner [256]atomic.Int64
		together(size[0], func(w int) {
			var held []int
			for range 4000 {
				slot, err := s.Enter(uint64(w))
				if err != api.OK || slot >= size[0]*size[1] {
					t.Errorf("Enter = %d, %d, with room for one of %d", slot, err, size[0]*size[1])
					return
				}
				if !owner[slot].CompareAndSwap(0, int64(w+1)) {
					t.Errorf("slot %d is taken twice", slot)
				}
				held = append(held, slot)
				if len(held) == size[1] {
					owner[held[0]].Store(0)
					if err := s.Leave(held[0]); err != api.OK {
						t.Errorf("Leave(%d) = %d", held[0], err)
					}
					held = held[1:]
				}
			}
		})
		if l := s.Readers(); len(l) != size[0]*(size[1]-1) {
			t.Errorf("%d are there, want %d", len(l), size[0]*(size[1]-1))
		}
	}
}

// Sn1: one more is let for each that leaves, and no more, whoever asks.
func TestManyEnterWhereAllSlotsAreTaken(t *testing.T) {
	for range 20 {
		s, _ := full(t, 0)
		var lets atomic.Int64
		together(8, func(w int) {
			for n := w; n < 2000; n += 8 {
				if w%2 == 0 && n < 256 && s.Leave(n) != api.OK {
					t.Errorf("Leave(%d) is refused", n)
				}
				if slot, err := s.Enter(200); err == api.OK {
					lets.Add(1)
					if slot%2 != 0 {
						t.Errorf("slot %d, which nobody left", slot)
					}
				} else if err != api.ErrFull {
					t.Errorf("Enter: %d", err)
				}
			}
		})
		if lets.Load() != 128 || len(s.Readers()) != 256 {
			t.Fatalf("%d were let, %d are there, want 128, 256", lets.Load(), len(s.Readers()))
		}
	}
}

// Sn1: of many that leave one slot just one is told OK.
func TestManyLeaveOne(t *testing.T) {
	for range 100 {
		s, _ := full(t, 0)
		var oks atomic.Int64
		together(8, func(int) {
			for slot := range 256 {
				if err := s.Leave(slot); err == api.OK {
					oks.Add(1)
				} else if err != api.ErrSlot {
					t.Errorf("Leave(%d) = %d", slot, err)
				}
			}
		})
		if oks.Load() != 256 || len(s.Readers()) != 0 {
			t.Fatalf("%d left, %d are there, want 256, 0", oks.Load(), len(s.Readers()))
		}
	}
}

// Sn2, Sn4: whoever raises, the floor stays at or below the stamp of who is there, from its Enter to its Leave; who is told ErrLow finds the floor above its stamp; and the floor never falls.
func TestManyReadWhileOthersRaise(t *testing.T) {
	s := newSnaps(t, 0)
	together(8, func(w int) {
		was := uint64(0)
		for n := range uint64(20000) {
			if w >= 2 {
				was = max(was, s.Floor())
				was = readAt(t, s, was+n%4, was)
				continue
			}
			floor := s.Raise(n + uint64(w))
			if floor < was {
				t.Errorf("Raise = %d behind %d", floor, was)
				return
			}
			was = floor
			runtime.Gosched()
		}
	})
	if floor := s.Floor(); floor == 0 || len(s.Readers()) != 0 {
		t.Errorf("at the end the floor is %d, %d are there", floor, len(s.Readers()))
	}
}

// readAt enters at a stamp, looks and leaves: the floor as it saw it last.
func readAt(t *testing.T, s *snap.Snaps, stamp, was uint64) uint64 {
	slot, err := s.Enter(stamp)
	if err == api.ErrLow {
		floor := s.Floor()
		if floor <= stamp || floor < was {
			t.Errorf("Enter(%d): ErrLow at the floor %d, that was %d", stamp, floor, was)
		}
		return floor
	}
	if err != api.OK {
		t.Errorf("Enter(%d): %d", stamp, err)
		return was
	}
	for range 3 {
		floor := s.Floor()
		least, some := s.Least()
		if floor > stamp || floor < was || !some || least > stamp || least < floor {
			t.Errorf("a reader at %d: the floor %d, that was %d, Least %d, %v", stamp, floor, was, least, some)
		}
		was = floor
	}
	if floor := s.Raise(1 << 62); floor > stamp || floor < was {
		t.Errorf("a reader at %d: Raise = %d behind %d", stamp, floor, was)
	}
	if !slices.Contains(s.Readers(), api.Reader{Slot: slot, Stamp: stamp}) {
		t.Errorf("a reader at %d in slot %d is not there", stamp, slot)
	}
	if err := s.Leave(slot); err != api.OK {
		t.Errorf("Leave(%d) = %d", slot, err)
	}
	return was
}

// Sn2: Least is of one time: one reader is always there, at a stamp that rises, since each enters ahead of the last one's leaving; so somebody is there, and the least stamp does not fall, nor does the floor that is raised to it.
func TestLeastIsOfOneTime(t *testing.T) {
	s := newSnaps(t, 0)
	last, _ := s.Enter(1)
	beside(func(turn uint64) {
		slot, err := s.Enter(turn + 2)
		if err != api.OK || slot == last || slot > 1 {
			t.Errorf("Enter = %d, %d", slot, err)
		}
		s.Leave(last)
		last = slot
	}, func() {
		together(3, func(w int) {
			was := uint64(1)
			for range 100000 {
				least, some := s.Least()
				if !some || least < was {
					t.Errorf("Least = %d, %v behind %d", least, some, was)
					return
				}
				was = least
				if w == 0 {
					was = s.Raise(1 << 62)
				}
				if was < least {
					t.Errorf("Raise = %d behind the least, %d", was, least)
					return
				}
			}
		})
	})
}

// Sn2: Readers is of one time: they enter one behind the other at rising stamps, and leave in that order, so that 20 or 21 are there, in as many slots, at stamps without a hole.
func TestReadersIsOfOneTime(t *testing.T) {
	s := newSnaps(t, 0)
	for n := range uint64(20) {
		s.Enter(n)
	}
	beside(func(turn uint64) {
		s.Enter(turn + 20)
		s.Leave(int(turn % 21))
	}, func() {
		together(3, func(int) {
			for range 20000 {
				l := s.Readers()
				if !isWindow(l, 20) && !isWindow(l, 21) {
					t.Errorf("Readers = %v", l)
					return
				}
			}
		})
	})
}

// isWindow is whether so many readers are there, at stamps without a hole, each in the slot of its stamp's rest by 21.
func isWindow(l []api.Reader, size int) bool {
	if len(l) != size {
		return false
	}
	least := slices.MinFunc(l, func(a, b api.Reader) int { return int(a.Stamp) - int(b.Stamp) }).Stamp
	for i, r := range l {
		if uint64(r.Slot) != r.Stamp%21 || r.Stamp >= least+uint64(size) || i > 0 && l[i-1].Slot >= r.Slot {
			return false
		}
	}
	return true
}

// Sn1: the least free slot is never above how many others are there: here two at most, one that moves from slot to slot and one that comes and goes.
func TestSlotsOfTwoThatMeet(t *testing.T) {
	s := newSnaps(t, 0)
	last, _ := s.Enter(5)
	beside(func(uint64) {
		slot, err := s.Enter(5)
		if err != api.OK || slot > 2 || slot == last {
			t.Errorf("Enter = %d, %d, by one in slot %d", slot, err, last)
		}
		s.Leave(last)
		last = slot
	}, func() {
		for range 200000 {
			slot, err := s.Enter(6)
			if err != api.OK || slot > 2 {
				t.Errorf("Enter = %d, %d", slot, err)
				return
			}
			if err := s.Leave(slot); err != api.OK {
				t.Errorf("Leave(%d) = %d", slot, err)
				return
			}
		}
	})
	if l := s.Readers(); !slices.Equal(l, []api.Reader{{Slot: last, Stamp: 5}}) {
		t.Errorf("Readers = %v, want one, in slot %d", l, last)
	}
}

// One behind the other: who entered finds itself, and who left finds itself gone, in all that is asked behind it, while others do the same.
func TestManyWorkOnTheirOwn(t *testing.T) {
	s := newSnaps(t, 0)
	together(16, func(w int) {
		for turn := range uint64(1000) {
			stamp := uint64(w) + 16*turn
			slot, err := s.Enter(stamp)
			own := api.Reader{Slot: slot, Stamp: stamp}
			if err != api.OK || !slices.Contains(s.Readers(), own) {
				t.Errorf("Enter(%d) = %d, %d, and it is not there", stamp, slot, err)
				return
			}
			if least, some := s.Least(); !some || least > stamp {
				t.Errorf("Least = %d, %v, with one at %d", least, some, stamp)
			}
			if err := s.Leave(slot); err != api.OK || slices.Contains(s.Readers(), own) {
				t.Errorf("Leave(%d) = %d, and it is there", slot, err)
			}
		}
	})
	if least, some := s.Least(); least != 0 || some || len(s.Readers()) != 0 {
		t.Errorf("Least = %d, %v, Readers %v", least, some, s.Readers())
	}
}
