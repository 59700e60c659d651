package index_test

import (
	"fmt"
	"maps"
	"runtime"
	"slices"
	"sync"
	"sync/atomic"
	"testing"

	"vellum/api"
	"vellum/code"
	"vellum/index"
	"vellum/lit"
	"vellum/store"
)

// together runs so many workers at one time, which all begin when the last one is there.
func together(workers int, work func(worker int)) {
	var ready, all sync.WaitGroup
	ready.Add(workers)
	for w := range workers {
		all.Go(func() {
			ready.Done()
			ready.Wait()
			work(w)
		})
	}
	all.Wait()
}

// beside runs one thing again and again, while another one runs once.
func beside(again func(turn int), once func()) {
	var stop atomic.Bool
	var other sync.WaitGroup
	other.Go(func() {
		for turn := 0; !stop.Load(); turn++ {
			again(turn)
			if turn%64 == 0 {
				runtime.Gosched()
			}
		}
	})
	defer other.Wait()
	defer stop.Store(true)
	once()
}

// In1: of many who would let a key lead to slots of their own one does, and all others are told ErrTaken; whoever looks sees the key lead to that slot from then on.
func TestManyPutOneKey(t *testing.T) {
	const workers, keys = 8, 300
	x := newIndex(t, table(), -1)
	var won [workers][keys]bool
	slots := map[string]int{}
	beside(func(int) { staySo(t, slots, x.Find(all(), false, many)) }, func() {
		together(workers, func(w int) {
			for key := range keys {
				switch err := x.Put(pair(int64(key), int64(w)), w); err {
				case api.OK:
					won[w][key] = true
				case api.ErrTaken:
				default:
					t.Errorf("Put: %d", err)
				}
			}
		})
	})
	for key := range keys {
		var winners []int
		for w := range workers {
			if won[w][key] {
				winners = append(winners, w)
			}
		}
		finds(t, x, code.Point(keyOf(t, lit.Int(int64(key)))), false, 9, winners...)
		wants(t, "how many were told OK", len(winners), 1)
	}
}

// staySo holds entries against those that were there ahead of them: none is missing, and none leads elsewhere.
func staySo(t *testing.T, slots map[string]int, l []api.Hit) {
	if len(l) < len(slots) {
		t.Errorf("%d entries, there were %d", len(l), len(slots))
	}
	for _, h := range l {
		if was, there := slots[h.Key]; there && was != h.Slot {
			t.Errorf("%x leads to %d and then to %d", h.Key, was, h.Slot)
		}
		slots[h.Key] = h.Slot
	}
}

// In1, In3: while one puts keys one behind the other, not in their order, whoever asks finds, and sees, those that were put first, and no fewer than it did last.
func TestCallsAreOfOneTime(t *testing.T) {
	const size = 300
	var rows [][]api.Value
	for i := range size {
		rows = append(rows, pair(int64(i), int64(i)))
	}
	s := filled(t, rows...)
	for turn := range 60 {
		x := newIndex(t, table(), turn%2-1)
		was := 0
		beside(func(n int) {
			slots := slotsOf(x.Find(all(), n%3 == 0, many))
			if n%2 == 0 {
				slots = seenSlots(x.Look(s, api.View{Stamp: 1}, all(), n%3 == 0, many))
			}
			if len(slots) < was || !putFirst(slots, size) {
				t.Errorf("behind %d there are %v", was, slots)
			}
			was = len(slots)
		}, func() {
			for n := range size {
				put(t, x, rows[placed(n, size)], placed(n, size))
			}
		})
	}
}

// placed is the slot of so many that is put as the nth.
func placed(n, size int) int { return (size - 1 - n) * 7 % size }

// putFirst tells whether slots are those that were put first.
func putFirst(slots []int, size int) bool {
	var first []int
	for n := range slots {
		first = append(first, placed(n, size))
	}
	slices.Sort(first)
	slices.Sort(slots)
	return slices.Equal(first, slots)
}

func seenSlots(l []api.Seen) []int {
	var slots []int
	for _, x := range l {
		slots = append(slots, x.Slot)
	}
	return slots
}

// In3, In5: a row whose key goes to and fro is told by each look once, whatever is settled meanwhile, however many entries there are in between.
func TestARowThatMovesIsToldOnce(t *testing.T) {
	for _, between := range []int{0, 100} {
		s := filled(t, pair(0, 0), pair(1, 1000))
		x := built(t, table(), 0, s)
		put(t, x, pair(0, 2000), 0)
		for i := range between {
			put(t, x, pair(int64(5+i), int64(i+1)), 5+i)
		}
		stamp := uint64(1)
		beside(func(turn int) {
			moves(t, s, &stamp, pair(0, int64(turn%2*2000)))
		}, func() {
			together(3, func(w int) {
				for n := range 5000 {
					toldOnce(t, x, s, (n+w)%2 == 0, 2+n%2*many)
				}
			})
		})
	}
}

// In3, In5: likewise of one that goes on to new keys, each of which is put ahead of its being written.
func TestARowThatGoesOnIsToldOnce(t *testing.T) {
	const often = 1500
	s := filled(t, pair(0, -1), pair(1, 1000000))
	x := built(t, table(), 0, s)
	var stop atomic.Bool
	together(4, func(w int) {
		stamp := uint64(1)
		for n := 0; w == 0 && n < often; n++ {
			row := pair(0, int64(n*7919%10007))
			if err := x.Put(row, 0); err != api.OK {
				t.Errorf("Put: %d", err)
			}
			moves(t, s, &stamp, row)
		}
		if w == 0 {
			stop.Store(true)
		}
		for n := 0; !stop.Load(); n++ {
			toldOnce(t, x, s, (n+w)%2 == 0, 2+n%2*many)
		}
	})
}

// moves settles a row in slot 0 at the next stamp, and prunes what is not seen any more.
func moves(t *testing.T, s *store.Store, stamp *uint64, row []api.Value) {
	if err := s.Write(0, 2, api.Write{Row: row}, *stamp); err != api.OK {
		t.Errorf("Write: %d", err)
	}
	*stamp++
	if _, err := s.Settle(2, *stamp); err != api.OK {
		t.Errorf("Settle: %d", err)
	}
	s.Prune(*stamp)
}

// toldOnce looks at all keys, by who sees what is newest: there are the rows 0 and 1, and no other one.
func toldOnce(t *testing.T, x *index.Index, s *store.Store, back bool, most int) {
	l := x.Look(s, api.View{Stamp: api.MaxStamp}, all(), back, most)
	if len(l) != 2 || l[0].Slot+l[1].Slot != 1 {
		t.Errorf("Look tells %s", pairs(l))
	}
	for _, seen := range l {
		if seen.Row[0].N != int64(seen.Slot) {
			t.Errorf("the row in %d is %v", seen.Slot, seen.Row)
		}
	}
}

// R1: who looks far gets through, however many put meanwhile, ahead of it and behind it.
func TestLongLooksEnd(t *testing.T) {
	const size = 5000
	var rows [][]api.Value
	for i := range size {
		rows = append(rows, pair(int64(i), 0))
	}
	s := filled(t, rows...)
	x := built(t, table(), 0, s)
	puts := func(from int64) func(int) {
		return func(turn int) { x.Put(pair(int64(turn), from), size+turn) }
	}
	beside(puts(-1), func() {
		beside(puts(1), func() {
			for n := range 6 {
				if l := x.Look(s, api.View{Stamp: 1}, all(), n%2 == 0, size+n%3); len(l) != size {
					t.Errorf("Look tells %d rows", len(l))
				}
			}
		})
	})
}

// timed is a call, what it was told, and at which ticks it began and ended.
type timed struct {
	key, slot int
	kind      int
	told      string
	from, to  int64
}

// on is what an index is told, or tells, as a text.
func (c timed) on(x *index.Index, s *store.Store) string {
	switch c.kind {
	case 0:
		return fmt.Sprint(x.Put(pair(int64(c.key), 0), c.slot))
	case 1:
		return shownHits(x.Find(all(), c.slot == 0, 1+c.key))
	}
	return shownSeen(x.Look(s, api.View{Stamp: 1}, all(), c.slot == 0, 1+c.key))
}

// onPlain is what the plain one is told, or tells.
func (c timed) onPlain(p *plain, s *store.Store) string {
	switch c.kind {
	case 0:
		return fmt.Sprint(p.put(pair(int64(c.key), 0), c.slot))
	case 1:
		return shownHits(p.find(all(), c.slot == 0, 1+c.key))
	}
	return shownSeen(p.look(s, api.View{Stamp: 1}, all(), c.slot == 0, 1+c.key))
}

// serial tells whether calls, some of which are done (a bit each), can stand one behind the other, on what the plain one has then, so that each is told what it was told; none ahead of one that had ended when it began.
func serial(l []timed, done uint, p *plain, s *store.Store, tried map[string]bool) bool {
	state := fmt.Sprint(done, p.shown())
	if done == 1<<len(l)-1 || tried[state] {
		return !tried[state]
	}
	tried[state] = true
	for i, x := range l {
		if done>>i&1 == 1 || slices.ContainsFunc(l, func(y timed) bool { return y.to < x.from && done>>slices.Index(l, y)&1 == 0 }) {
			continue
		}
		then := &plain{p.table, p.n, maps.Clone(p.entries)}
		if x.onPlain(then, s) == x.told && serial(l, done|1<<i, then, s, tried) {
			return true
		}
	}
	return false
}

// Each call takes effect whole: what calls side by side are told is what they are told in some order of them, in which none stands ahead of one that ended ahead of its beginning.
func TestCallsTakeEffectWhole(t *testing.T) {
	const workers, often = 4, 4
	s := filled(t, pair(0, 0), pair(1, 0), pair(2, 0))
	for turn := range 4000 {
		c := chance{uint64(turn)}
		x := newIndex(t, table(), turn%2-1)
		var lists [workers][]timed
		for w := range workers {
			for range often {
				lists[w] = append(lists[w], timed{key: c.below(3), slot: c.below(3), kind: max(0, c.below(6)-w-1) % 3})
			}
		}
		var ticks atomic.Int64
		together(workers, func(w int) {
			for i := range lists[w] {
				y := &lists[w][i]
				y.from = ticks.Add(1)
				y.told = y.on(x, s)
				y.to = ticks.Add(1)
			}
		})
		if l := slices.Concat(lists[:]...); !serial(l, 0, newPlain(table(), turn%2-1), s, map[string]bool{}) {
			t.Fatalf("turn %d: no order of these: %+v", turn, l)
		}
	}
}
