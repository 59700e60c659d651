package gap_test

import (
	"runtime"
	"slices"
	"testing"
	"testing/synctest"

	"vellum/api"
	"vellum/gap"
)

// waiter is a call of Wait that goes on beside the test.
type waiter struct {
	ticket uint64
	told   api.Errno
	ended  bool
}

// waits begins a Wait, and goes on when that has ended or can get no further.
func waits(g *gap.Gaps, ticket uint64) *waiter {
	w := &waiter{ticket: ticket}
	go func() {
		w.told = g.Wait(ticket)
		w.ended = true
	}()
	synctest.Wait()
	return w
}

// is holds, when all have gone on as far as they can, that a Wait has ended so; -1: that it has not.
func (w *waiter) is(t *testing.T, want api.Errno) {
	t.Helper()
	synctest.Wait()
	if w.ended != (want >= 0) || w.ended && w.told != want {
		t.Fatalf("Wait(%d): ended %v, %d, want %d", w.ticket, w.ended, w.told, want)
	}
}

const waiting = api.Errno(-1)

// Ga2: a Wait ends when all that stood in its taker's way have gone, and not ahead of that, in whatever order they go.
func TestWaitEndsWhenGranted(t *testing.T) {
	orders := [][]uint64{{1, 2, 3}, {1, 3, 2}, {2, 1, 3}, {2, 3, 1}, {3, 1, 2}, {3, 2, 1}}
	for _, order := range orders {
		synctest.Test(t, func(t *testing.T) {
			g := taken(t, shared(upTo("a", "b")), shared(upTo("b", "c")), alone(upTo("c", "d")), shared(upTo("x", "z")), alone(upTo("a", "d")))
			w := waits(g, 5)
			for i, ticket := range order {
				w.is(t, waiting)
				has(t, g, 5, false)
				if err := g.Give(ticket); err != api.OK {
					t.Fatalf("Give(%d) = %d", ticket, err)
				}
				if i < 2 {
					w.is(t, waiting)
				}
			}
			w.is(t, api.OK)
			has(t, g, 5, true)
		})
	}
}

// Ga2: a Wait of one that is given back ahead of its turn is told that it is there no more.
func TestWaitOfWhoIsGivenBack(t *testing.T) {
	synctest.Test(t, func(t *testing.T) {
		all := alone(onwards(""))
		g := taken(t, all, all, all)
		two, three := waits(g, 2), waits(g, 3)
		g.Give(2)
		two.is(t, api.ErrTicket)
		three.is(t, waiting)
		g.Give(1)
		three.is(t, api.OK)
		two.is(t, api.ErrTicket)
	})
}

// Ga2: a Wait ends when its taker is granted: that it is given back at once behind that changes nothing.
func TestWaitOfWhoIsGrantedAndGivenBack(t *testing.T) {
	for range 300 {
		synctest.Test(t, func(t *testing.T) {
			all := alone(onwards(""))
			g := taken(t, all, all, all, all)
			two, three, four := waits(g, 2), waits(g, 3), waits(g, 4)
			for ticket := range uint64(4) {
				g.Give(ticket + 1)
			}
			for _, w := range []*waiter{two, three, four} {
				w.is(t, api.OK)
			}
		})
	}
}

// Ga2: the same where others give both back, side by side: the one that gives the second back as soon as it is granted.
func TestWaitWhereOthersGiveBack(t *testing.T) {
	for range 1000 {
		synctest.Test(t, func(t *testing.T) {
			g := taken(t, alone(onwards("")), alone(onwards("")))
			w := waits(g, 2)
			go func() {
				for {
					if is, _ := g.Has(2); is {
						g.Give(2)
						return
					}
					runtime.Gosched()
				}
			}()
			g.Give(1)
			w.is(t, api.OK)
			if l := g.Tickets(); len(l) != 0 {
				t.Fatalf("Tickets = %v", l)
			}
		})
	}
}

// Ga2: and where nobody looks whether it is granted: all that wait are told the same, and by what went first.
func TestWaitersAreToldTheSame(t *testing.T) {
	for turn := range uint64(2000) {
		synctest.Test(t, func(t *testing.T) {
			g := taken(t, alone(onwards("")), alone(onwards("")))
			ws := []*waiter{waits(g, 2), waits(g, 2), waits(g, 2)}
			go g.Give(1 + turn%2)
			go g.Give(2 - turn%2)
			synctest.Wait()
			for _, w := range ws {
				w.is(t, ws[0].told)
			}
			if ws[0].told != api.OK {
				ws[0].is(t, api.ErrTicket)
			}
		})
	}
}

// Ga2: many wait for one, and one who waits for nobody's ticket, or for one that is granted, ends at once.
func TestManyWaitForOne(t *testing.T) {
	for _, given := range []uint64{1, 2} {
		synctest.Test(t, func(t *testing.T) {
			g := taken(t, alone(upTo("a", "c")), shared(upTo("a", "c")))
			var ws []*waiter
			for range 50 {
				ws = append(ws, waits(g, 2))
			}
			waits(g, 1).is(t, api.OK)
			waits(g, 3).is(t, api.ErrTicket)
			waits(g, 0).is(t, api.ErrTicket)
			g.Give(given)
			want := api.OK
			if given == 2 {
				want = api.ErrTicket
			}
			for _, w := range ws {
				w.is(t, want)
			}
			waits(g, 2).is(t, want)
		})
	}
}

// Ga2: nobody is held up by one that waits: all other calls go on, also those on its own ticket.
func TestWhoWaitsHoldsNobodyUp(t *testing.T) {
	synctest.Test(t, func(t *testing.T) {
		g, p := gap.New(), newPlain()
		take(t, g, p, alone(upTo("a", "c")))
		take(t, g, p, alone(upTo("a", "b")))
		w := waits(g, 2)
		for range 10 {
			take(t, g, p, alone(upTo("a", "d")))
			take(t, g, p, alone(upTo("x", "y")))
			shows(t, g, p)
			w.is(t, waiting)
			give(t, g, p, p.next-1)
			give(t, g, p, p.next-2)
			shows(t, g, p)
		}
		w.is(t, waiting)
		give(t, g, p, 1)
		w.is(t, api.OK)
		shows(t, g, p)
	})
}

// Ga1, Ga2, Ga4: long runs with waits in their midst: each ends behind the call that grants its taker, or takes it away, and not ahead of that.
func TestRunsOfWaits(t *testing.T) {
	for seed := range uint64(20) {
		synctest.Test(t, func(t *testing.T) {
			g, p, c := gap.New(), newPlain(), chance{r: seed}
			var open []*waiter
			for range 300 {
				switch there := p.tickets(); {
				case len(there) == 0 || c.below(4) == 0 && len(there) < 14:
					take(t, g, p, c.holds(3, 10))
				case c.below(3) == 0:
					give(t, g, p, there[c.below(len(there))])
				default:
					open = append(open, waits(g, there[c.below(len(there))]))
				}
				open = slices.DeleteFunc(open, func(w *waiter) bool {
					is, err := p.has(w.ticket)
					if !is && err == api.OK {
						w.is(t, waiting)
						return false
					}
					w.is(t, err)
					return true
				})
			}
			for _, ticket := range slices.Backward(p.tickets()) {
				give(t, g, p, ticket)
			}
			for _, w := range open {
				w.is(t, api.ErrTicket)
			}
		})
	}
}

// Ga4: however many wait, in a line or side by side, each is granted in its turn when those ahead of it give back: nobody waits in a round.
func TestAllWaitersAreServed(t *testing.T) {
	for seed := range uint64(10) {
		synctest.Test(t, func(t *testing.T) {
			g, c := gap.New(), chance{r: seed}
			var ws []*waiter
			for range 256 {
				ticket, _ := g.Take(c.holds(4, 30))
				ws = append(ws, waits(g, ticket))
			}
			for {
				there := g.Tickets()
				if len(there) == 0 {
					return
				}
				ended := slices.DeleteFunc(slices.Clone(there), func(ticket uint64) bool { return !ws[ticket-1].ended })
				if len(ended) == 0 || ended[0] != there[0] {
					t.Fatalf("granted are %v of %v", ended, there)
				}
				gone := ended[c.below(len(ended))]
				ws[gone-1].is(t, api.OK)
				g.Give(gone)
				synctest.Wait()
			}
		})
	}
}
