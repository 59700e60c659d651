package gap

import (
	"runtime"
	"slices"
	"strconv"
	"testing"
	"testing/synctest"
	"weak"

	"vellum/api"
)

func wholeAlone() []api.Hold { return []api.Hold{{Range: api.Range{Open: true}, Alone: true}} }

// left gives a ticket back as a goroutine does that gets no further then: it tells nobody. What it would do is told.
func left(g *Gaps, ticket uint64) (tell func()) {
	was := g.now.Load()
	t, _ := was.find(ticket)
	is := was.without(t)
	g.now.Store(is)
	return func() {
		was.tellLast(t)
		is.tellBehind(t)
	}
}

// Ga2: a call takes effect whole, when its line is there: who gives back and gets no further holds nobody up but those that wait already; these are told what became of their takers by who comes next, and the late one changes nothing of it.
func TestGiversThatGetNoFurther(t *testing.T) {
	for _, late := range []bool{false, true} {
		synctest.Test(t, func(t *testing.T) {
			g := New()
			for range 4 {
				g.Take(wholeAlone())
			}
			told := make([]api.Errno, 5)
			for ticket := uint64(2); ticket <= 4; ticket++ {
				go func() { told[ticket] = g.Wait(ticket) + 1 }()
			}
			synctest.Wait()
			tell := left(g, 1)
			if has, err := g.Has(2); !has || err != api.OK || g.Wait(2) != api.OK {
				t.Fatalf("Has(2) = %v, %d", has, err)
			}
			three := left(g, 3)
			if late {
				g.Give(2)
				tell()
			} else {
				tell()
				g.Give(2)
			}
			three()
			synctest.Wait()
			if want := []api.Errno{0, 0, api.OK + 1, api.ErrTicket + 1, api.OK + 1}; !slices.Equal(told, want) {
				t.Errorf("told are %v, want %v", told, want)
			}
		})
	}
}

// Ga1: one that comes into the line behind others than it thought knows all that are there then, and none that have gone.
func TestTakerThatStandsBehindAnotherLine(t *testing.T) {
	for _, gone := range [][]uint64{nil, {1}, {3}, {1, 2, 3}, {4}, {2, 5}, {1, 2, 3, 4, 5}} {
		g := New()
		for range 3 {
			g.Take(wholeAlone())
		}
		late := newTaker(claimOf(wholeAlone()))
		late.standBehind(g.now.Load())
		g.Take(wholeAlone())
		g.Take(nil)
		g.Take(wholeAlone())
		for _, ticket := range gone {
			g.Give(ticket)
		}
		late.standBehind(g.now.Load())
		want := slices.DeleteFunc([]uint64{1, 2, 3, 4, 6}, func(ticket uint64) bool { return slices.Contains(gone, ticket) })
		if late.ticket != 7 || !slices.Equal(late.ahead, want) {
			t.Errorf("behind %v: ticket %d, ahead %v, want %v", gone, late.ticket, late.ahead, want)
		}
	}
}

// What is kept is who is there: in a line that never ends, in which each stood behind the one ahead of it, those that have gone are not kept.
func TestGoneTakersAreNotKept(t *testing.T) {
	g := New()
	var gone []weak.Pointer[taker]
	g.Take(wholeAlone())
	for ticket := uint64(1); ticket <= 200; ticket++ {
		g.Take(wholeAlone())
		x, _ := g.now.Load().find(ticket)
		gone = append(gone, weak.Make(x))
		g.Give(ticket)
	}
	runtime.GC()
	runtime.GC()
	for i, p := range gone {
		if p.Value() != nil {
			t.Fatalf("taker %d is kept", i+1)
		}
	}
	if l := g.Tickets(); !slices.Equal(l, []uint64{201}) {
		t.Errorf("Tickets = %v", l)
	}
}

// Words: what is kept of holds are few ranges, if these lie in one another or touch; those that are shared are not kept as alone.
func TestClaims(t *testing.T) {
	var l []api.Hold
	for i := range 100 {
		l = append(l, api.Hold{Range: api.Range{Lo: "a" + strconv.Itoa(100+i), Hi: "a" + strconv.Itoa(101+i)}, Alone: i < 50})
	}
	c := claimOf(l)
	if want := []api.Range{{Lo: "a100", Hi: "a200"}}; !slices.Equal(c.all, want) {
		t.Errorf("all are %v", c.all)
	}
	if want := []api.Range{{Lo: "a100", Hi: "a150"}}; !slices.Equal(c.alone, want) {
		t.Errorf("alone are %v", c.alone)
	}
}
