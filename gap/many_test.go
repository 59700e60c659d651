package gap_test

import (
	"runtime"
	"slices"
	"sync"
	"sync/atomic"
	"testing"

	"vellum/api"
	"vellum/gap"
)

// together runs so many workers at one time, which all begin when the last one is there.
func together(workers int, work func(worker int)) {
	var ready, all sync.WaitGroup
	ready.Add(workers)
	for w := range workers {
		all.Go(func() {
			ready.Done()
			ready.Wait()
			work(w)
		})
	}
	all.Wait()
}

// beside runs one thing again and again, while another one runs once.
func beside(again func(turn uint64), once func()) {
	var stop atomic.Bool
	var other sync.WaitGroup
	other.Go(func() {
		for turn := uint64(0); !stop.Load(); turn++ {
			again(turn)
			if turn%64 == 0 {
				runtime.Gosched()
			}
		}
	})
	once()
	stop.Store(true)
	other.Wait()
}

// numbers is those from one on, so many.
func numbers(from, count uint64) []uint64 {
	var l []uint64
	for n := range count {
		l = append(l, from+n)
	}
	return l
}

// Ga1: many take at one time till it is full: just 256 are let, each ticket once, each one's own rising; all others are told ErrFull.
func TestManyTake(t *testing.T) {
	for _, l := range [][]api.Hold{nil, alone(onwards(""))} {
		for range 30 {
			g := gap.New()
			var lists [16][]uint64
			together(len(lists), func(w int) {
				ticket, err := g.Take(l)
				for ; err == api.OK; ticket, err = g.Take(l) {
					lists[w] = append(lists[w], ticket)
				}
				if err != api.ErrFull || ticket != 0 || !slices.IsSorted(lists[w]) {
					t.Errorf("Take = %d, %d behind %v", ticket, err, lists[w])
				}
			})
			all := slices.Concat(lists[:]...)
			slices.Sort(all)
			if !slices.Equal(all, numbers(1, 256)) || !slices.Equal(g.Tickets(), all) {
				t.Fatalf("taken are %v, there are %v", all, g.Tickets())
			}
		}
	}
}

// Ga1: nobody is told ErrFull while there is room: 16 that are there 16 times each, at most, never are; and what they take are all tickets, each once.
func TestManyTakeWhereThereIsRoom(t *testing.T) {
	g := gap.New()
	var lists [16][]uint64
	together(len(lists), func(w int) {
		for i := range 600 {
			ticket, err := g.Take(shared(upTo("a", "b")))
			if err != api.OK {
				t.Errorf("Take: %d", err)
				return
			}
			lists[w] = append(lists[w], ticket)
			if i >= 15 {
				if err := g.Give(lists[w][i-15]); err != api.OK {
					t.Errorf("Give: %d", err)
				}
			}
		}
	})
	all := slices.Concat(lists[:]...)
	slices.Sort(all)
	if !slices.Equal(all, numbers(1, 16*600)) || len(g.Tickets()) != 16*15 {
		t.Fatalf("%d tickets, the last %d, %d are there", len(all), all[len(all)-1], len(g.Tickets()))
	}
}

// Ga1: one more is let for each that goes, and no more, whoever asks; and what is refused takes no ticket.
func TestManyTakeWhereItIsFull(t *testing.T) {
	for range 20 {
		g := taken(t, slices.Repeat([][]api.Hold{nil}, 256)...)
		var lets atomic.Uint64
		together(8, func(w int) {
			for n := w; n < 1000; n += 8 {
				if w%2 == 0 && n < 256 && g.Give(uint64(n+1)) != api.OK {
					t.Errorf("Give(%d) is refused", n+1)
				}
				if _, err := g.Take(nil); err == api.OK {
					lets.Add(1)
				} else if err != api.ErrFull {
					t.Errorf("Take: %d", err)
				}
			}
		})
		l := g.Tickets()
		if lets.Load() != 128 || len(l) != 256 || l[255] != 256+128 {
			t.Fatalf("%d were let, %d are there, the last %d", lets.Load(), len(l), l[len(l)-1])
		}
	}
}

// Ga2: of many that give one back just one is told OK.
func TestManyGiveOne(t *testing.T) {
	for range 50 {
		g := taken(t, slices.Repeat([][]api.Hold{alone(onwards(""))}, 256)...)
		var oks atomic.Int64
		together(8, func(w int) {
			for n := range uint64(256) {
				if w%2 == 1 {
					n = 255 - n
				}
				if err := g.Give(n + 1); err == api.OK {
					oks.Add(1)
				} else if err != api.ErrTicket {
					t.Errorf("Give(%d) = %d", n+1, err)
				}
			}
		})
		if oks.Load() != 256 || len(g.Tickets()) != 0 {
			t.Fatalf("%d were given back, %d are there", oks.Load(), len(g.Tickets()))
		}
	}
}

// owners tells who has a key: alone -1, shared how many; and which tickets had it last.
type owners struct {
	now                atomic.Int64
	lastAlone, lastAny atomic.Uint64
}

// enter holds what Ga2 and Ga4 say of each key: who has it alone has it alone, and those that are in each other's way come by their tickets.
func (o *owners) enter(t *testing.T, ticket uint64, alone bool) {
	if alone {
		if !o.now.CompareAndSwap(0, -1) || o.lastAny.Load() > ticket {
			t.Errorf("%d has a key alone, that %d have; the last one was %d", ticket, o.now.Load(), o.lastAny.Load())
		}
		o.lastAlone.Store(ticket)
	} else if o.now.Add(1) < 1 || o.lastAlone.Load() > ticket {
		t.Errorf("%d has a key that another one has alone; the last one was %d", ticket, o.lastAlone.Load())
	}
	for was := o.lastAny.Load(); was < ticket && !o.lastAny.CompareAndSwap(was, ticket); was = o.lastAny.Load() {
	}
}

func (o *owners) leave(alone bool) {
	if alone {
		o.now.Store(0)
	} else {
		o.now.Add(-1)
	}
}

// keysOf is the places that some holds have, and whether alone.
func keysOf(l []api.Hold, places int) (all, alone []int) {
	for place := range places {
		of := slices.DeleteFunc(slices.Clone(l), func(h api.Hold) bool { return !isIn(h.Range, key(place)) })
		switch {
		case slices.ContainsFunc(of, func(h api.Hold) bool { return h.Alone }):
			alone = append(alone, place)
		case len(of) > 0:
			all = append(all, place)
		}
	}
	return all, alone
}

// Ga2, Ga4: many take ranges, wait for them and give them back: no two have what is in each other's way, and they are served by their tickets; all end.
func TestManyHold(t *testing.T) {
	const places = 24
	for _, size := range [][3]int{{4, 1, 3000}, {16, 3, 1500}, {60, 2, 400}, {16, 40, 400}} {
		g := gap.New()
		var keys [places]owners
		together(size[0], func(w int) {
			c := chance{r: uint64(w)}
			for range size[2] {
				l := c.holds(size[1], places)
				both, own := keysOf(l, places)
				ticket, err := g.Take(l)
				if err != api.OK || g.Wait(ticket) != api.OK {
					t.Errorf("Take = %d, %d", ticket, err)
					return
				}
				if is, err := g.Has(ticket); !is || err != api.OK {
					t.Errorf("behind Wait: Has(%d) = %v, %d", ticket, is, err)
				}
				forEach(both, func(place int) { keys[place].enter(t, ticket, false) })
				forEach(own, func(place int) { keys[place].enter(t, ticket, true) })
				if c.below(4) == 0 {
					runtime.Gosched()
				}
				forEach(own, func(place int) { keys[place].leave(true) })
				forEach(both, func(place int) { keys[place].leave(false) })
				if err := g.Give(ticket); err != api.OK {
					t.Errorf("Give(%d) = %d", ticket, err)
				}
			}
		})
		if l := g.Tickets(); len(l) != 0 {
			t.Errorf("there are %v", l)
		}
	}
}

func forEach(l []int, do func(n int)) {
	for _, n := range l {
		do(n)
	}
}

// Ga2: tickets that others give back under who waits: each Wait ends, and tells OK or ErrTicket; who is told OK was granted: the one ahead of it has gone.
func TestManyGiveBackUnderWhoWaits(t *testing.T) {
	g := gap.New()
	together(12, func(w int) {
		c := chance{r: uint64(w)}
		for range 3000 {
			ticket, err := g.Take(c.holds(2, 6))
			if err != api.OK {
				t.Errorf("Take: %d", err)
				return
			}
			if l := g.Tickets(); c.below(3) == 0 && len(l) > 0 {
				g.Give(l[c.below(len(l))])
			}
			l, _ := g.Ahead(ticket)
			if err := g.Wait(ticket); err != api.OK && err != api.ErrTicket {
				t.Errorf("Wait(%d) = %d", ticket, err)
			} else if there := g.Tickets(); err == api.OK && slices.ContainsFunc(l, func(x uint64) bool { return slices.Contains(there, x) }) {
				t.Errorf("Wait(%d) is OK, behind %v, with %v there", ticket, l, there)
			}
			g.Give(ticket)
		}
	})
	if l := g.Tickets(); len(l) != 0 {
		t.Errorf("there are %v", l)
	}
}

// Each call takes effect whole: they come one behind the other, and go in that order, so that 20 or 21 are there at any time, without a hole.
func TestTicketsAreOfOneTime(t *testing.T) {
	g := taken(t, slices.Repeat([][]api.Hold{shared(onwards(""))}, 20)...)
	beside(func(turn uint64) {
		g.Take(shared(onwards("")))
		g.Give(turn + 1)
	}, func() {
		together(3, func(int) {
			was := uint64(0)
			for range 20000 {
				l := g.Tickets()
				if len(l) < 20 || len(l) > 21 || l[0] < was || !slices.Equal(l, numbers(l[0], uint64(len(l)))) {
					t.Errorf("Tickets = %v behind %d", l, was)
					return
				}
				was = l[0]
			}
		})
	})
}

// Each call takes effect whole: what Ahead tells is who was there at one time: those ahead go from both ends, by turns, so that it has no hole, and as many at the one end as at the other, or one less at the lower one.
func TestAheadIsOfOneTime(t *testing.T) {
	for range 30 {
		g := taken(t, slices.Repeat([][]api.Hold{alone(onwards(""))}, 201)...)
		var done atomic.Bool
		together(3, func(w int) {
			if w == 0 {
				for n := range uint64(100) {
					g.Give(n + 1)
					g.Give(200 - n)
				}
				done.Store(true)
			}
			for end := false; !end; {
				end = done.Load()
				l, err := g.Ahead(201)
				is, _ := g.Has(201)
				if err != api.OK || len(l) == 0 && !is || end && len(l) > 0 {
					t.Errorf("Ahead = %v, %d, and then Has %v; at the end: %v", l, err, is, end)
					return
				}
				if len(l) == 0 {
					continue
				}
				low, high := l[0]-1, 200-l[len(l)-1]
				if !slices.Equal(l, numbers(l[0], uint64(len(l)))) || low != high && low != high+1 {
					t.Errorf("Ahead = %v", l)
					return
				}
			}
		})
		has(t, g, 201, true)
	}
}

// Ga4: a taker that is granted stays so, whoever comes and goes; and one that nobody stood in the way of when it came is granted from its beginning on.
func TestGrantedStaysSo(t *testing.T) {
	g := gap.New()
	together(8, func(w int) {
		place := key(w % 4)
		c := chance{r: uint64(w)}
		for range 2000 {
			own, _ := g.Take([]api.Hold{{Range: upTo(place, place+"\x00"), Alone: c.below(2) == 0}})
			granted := false
			for range 30 {
				is, err := g.Has(own)
				if err != api.OK || granted && !is {
					t.Errorf("Has(%d) = %v, %d, was %v", own, is, err, granted)
					return
				}
				granted = is
			}
			if g.Wait(own) != api.OK || g.Give(own) != api.OK {
				t.Errorf("ticket %d is refused", own)
			}
		}
	})
}

// Ga2: takers that do not meet do not wait for one another: each is granted at once while all others are there.
func TestManyWhoDoNotMeet(t *testing.T) {
	g := gap.New()
	together(16, func(w int) {
		for turn := range 2000 {
			l := append(alone(upTo(key(w), key(w+1))), shared(upTo("s", "t"))...)
			ticket, err := g.Take(l)
			is, err2 := g.Has(ticket)
			if err != api.OK || err2 != api.OK || !is {
				t.Errorf("in turn %d: Take = %d, %d, Has %v, %d", turn, ticket, err, is, err2)
				return
			}
			g.Give(ticket)
		}
	})
}
