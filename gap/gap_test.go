package gap_test

import (
	"slices"
	"testing"

	"vellum/api"
	"vellum/gap"
)

// has holds that a taker is there, and whether it is granted.
func has(t *testing.T, g *gap.Gaps, ticket uint64, want bool) {
	t.Helper()
	if is, err := g.Has(ticket); is != want || err != api.OK {
		t.Errorf("Has(%d) = %v, %d, want %v", ticket, is, err, want)
	}
}

func ahead(t *testing.T, g *gap.Gaps, ticket uint64, want ...uint64) {
	t.Helper()
	if l, err := g.Ahead(ticket); !slices.Equal(l, want) || err != api.OK {
		t.Errorf("Ahead(%d) = %v, %d, want %v", ticket, l, err, want)
	}
}

// taken is Gaps with a taker for each list.
func taken(t *testing.T, l ...[]api.Hold) *gap.Gaps {
	t.Helper()
	g := gap.New()
	for i, holds := range l {
		if ticket, err := g.Take(holds); ticket != uint64(i+1) || err != api.OK {
			t.Fatalf("Take = %d, %d, want %d", ticket, err, i+1)
		}
	}
	return g
}

// Ga1, Ga2: the chapter's first example.
func TestExample(t *testing.T) {
	g := taken(t, alone(upTo("a", "c")), shared(upTo("b", "d")), shared(upTo("c", "d")), alone(upTo("b", "e")))
	for i, want := range []bool{true, false, true, false} {
		has(t, g, uint64(i+1), want)
	}
	ahead(t, g, 4, 1, 2, 3)
	ahead(t, g, 2, 1)
	if err := g.Give(1); err != api.OK {
		t.Errorf("Give(1) = %d", err)
	}
	has(t, g, 2, true)
	ahead(t, g, 4, 2, 3)
	if err := g.Wait(2); err != api.OK {
		t.Errorf("Wait(2) = %d", err)
	}
	if l := g.Tickets(); !slices.Equal(l, []uint64{2, 3, 4}) {
		t.Errorf("Tickets = %v", l)
	}
}

// Ga1, Ga2: the chapter's second example: no holds, and ranges without keys, are granted whoever is there, and stand in nobody's way.
func TestNoKeys(t *testing.T) {
	none := [][]api.Hold{nil, {}, alone(upTo("b", "b")), alone(upTo("c", "a"), api.Range{}), alone(upTo("b", "")), shared(upTo("z", "y"))}
	for _, l := range none {
		g := taken(t, alone(onwards("")), l, l, alone(onwards("")))
		has(t, g, 2, true)
		has(t, g, 3, true)
		ahead(t, g, 2)
		ahead(t, g, 4, 1)
		if err := g.Wait(3); err != api.OK {
			t.Errorf("Wait = %d", err)
		}
	}
}

// Ga1: nobody is there at first.
func TestNewHasNone(t *testing.T) {
	g, p := gap.New(), newPlain()
	shows(t, g, p)
	give(t, g, p, 1)
	give(t, g, p, 0)
	shows(t, g, p)
	take(t, g, p, nil)
	shows(t, g, p)
}

// Ga1: tickets rise by one, and none is given twice: not where its taker has gone, nor where all have.
func TestTicketsRise(t *testing.T) {
	g, p := gap.New(), newPlain()
	for turn := range 300 {
		ticket := take(t, g, p, alone(upTo("a", "b")))
		if ticket != uint64(turn+1) {
			t.Fatalf("ticket %d in turn %d", ticket, turn)
		}
		switch turn % 4 {
		case 1:
			give(t, g, p, ticket)
		case 3:
			give(t, g, p, ticket-1)
			give(t, g, p, ticket)
			give(t, g, p, ticket-3)
		}
		shows(t, g, p)
	}
}

// Ga1, R2: 256 holds are let, one more is refused, whatever they are; what is refused takes no ticket.
func TestTakeOfManyHolds(t *testing.T) {
	g, p := gap.New(), newPlain()
	for _, one := range [][]api.Hold{alone(upTo("a", "b")), shared(onwards("")), alone(api.Range{})} {
		take(t, g, p, slices.Repeat(one, 257))
		take(t, g, p, slices.Repeat(one, 1000))
		shows(t, g, p)
		take(t, g, p, slices.Repeat(one, 256))
		take(t, g, p, slices.Repeat(one, 255))
		shows(t, g, p)
	}
	if l := g.Tickets(); len(l) != 6 || l[5] != 6 {
		t.Errorf("Tickets = %v", l)
	}
}

// Ga1: 256 takers are let, granted or not; one more is refused till one of them has gone, whichever, and takes no ticket.
func TestTakeWhereAllAreThere(t *testing.T) {
	for _, l := range [][]api.Hold{nil, alone(onwards("")), shared(upTo("a", "b"))} {
		g, p := gap.New(), newPlain()
		for range 256 {
			take(t, g, p, l)
		}
		for _, gone := range []uint64{256, 1, 100, 257} {
			if ticket, err := g.Take(l); ticket != 0 || err != api.ErrFull {
				t.Fatalf("Take = %d, %d, want ErrFull", ticket, err)
			}
			take(t, g, p, slices.Repeat(alone(onwards("")), 257))
			give(t, g, p, gone)
			take(t, g, p, l)
			shows(t, g, p)
		}
		if l := g.Tickets(); len(l) != 256 || l[255] != 260 {
			t.Errorf("Tickets = %v", l)
		}
	}
}

// Ga2, R2: of a ticket that nobody has, who gave it back or who never took it, all is refused, and nothing changes.
func TestNoSuchTaker(t *testing.T) {
	g, p := gap.New(), newPlain()
	for range 6 {
		take(t, g, p, alone(upTo("a", "b")))
	}
	for _, gone := range []uint64{2, 6, 1} {
		give(t, g, p, gone)
	}
	for _, ticket := range []uint64{0, 1, 2, 6, 7, 8, 1<<32 + 3, 1<<63 + 3, 1<<64 - 1} {
		is, err := g.Has(ticket)
		l, err2 := g.Ahead(ticket)
		if is || len(l) != 0 || err != api.ErrTicket || err2 != api.ErrTicket || g.Wait(ticket) != api.ErrTicket || g.Give(ticket) != api.ErrTicket {
			t.Errorf("of %d: %v, %d; %v, %d; Wait %d, Give %d", ticket, is, err, l, err2, g.Wait(ticket), g.Give(ticket))
		}
		shows(t, g, p)
	}
	if api.ErrTicket != 130 {
		t.Errorf("ErrTicket is %d", api.ErrTicket)
	}
}

// Ga2, Words: each two ranges, alone or shared: the later one waits just if some key is in both, and one of them is alone.
func TestEachTwoHolds(t *testing.T) {
	for _, a := range ranges() {
		for _, b := range ranges() {
			for kind := range 4 {
				g, p := gap.New(), newPlain()
				take(t, g, p, holds(kind&1 != 0, []api.Range{a}))
				take(t, g, p, holds(kind&2 != 0, []api.Range{b}))
				shows(t, g, p)
				give(t, g, p, 1)
				shows(t, g, p)
			}
		}
	}
}

// Ga2, Words: some such pairs by hand, so that the plain ones are held against the document too.
func TestSomePairs(t *testing.T) {
	tests := []struct {
		a, b []api.Hold
		way  bool
	}{
		{alone(upTo("a", "c")), alone(upTo("b", "d")), true},
		{alone(upTo("a", "c")), shared(upTo("b", "d")), true},
		{shared(upTo("a", "c")), alone(upTo("b", "d")), true},
		{shared(upTo("a", "c")), shared(upTo("b", "d")), false},
		{alone(upTo("a", "b")), alone(upTo("b", "d")), false},
		{alone(upTo("a", "b\x00")), alone(upTo("b", "d")), true},
		{alone(onwards("a")), alone(upTo("zzz", "zzz\x00")), true},
		{alone(onwards("b")), alone(upTo("a", "b")), false},
		{alone(api.Range{Lo: "b", Hi: "a", Open: true}), alone(upTo("c", "d")), true},
		{alone(upTo("b", "b")), alone(upTo("a", "c")), false},
		{alone(upTo("a", "b"), upTo("x", "y")), shared(upTo("c", "d"), upTo("w", "z")), true},
		{append(shared(upTo("a", "b")), alone(upTo("x", "y"))...), append(shared(upTo("a", "b")), alone(upTo("v", "w"))...), false},
		{append(shared(upTo("a", "b")), alone(upTo("x", "y"))...), append(shared(upTo("x", "y")), alone(upTo("v", "w"))...), true},
		{append(shared(upTo("a", "b")), alone(upTo("a", "b"))...), shared(upTo("a", "b")), true},
		{append(shared(upTo("a", "z")), alone(upTo("d", "e"))...), shared(upTo("b", "c")), false},
		{append(shared(upTo("a", "z")), alone(upTo("d", "e"))...), alone(upTo("b", "c")), true},
	}
	for i, x := range tests {
		for _, l := range [][2][]api.Hold{{x.a, x.b}, {x.b, x.a}} {
			g := taken(t, l[0], l[1])
			if is, _ := g.Has(2); is == x.way {
				t.Errorf("pair %d: Has(2) = %v", i, is)
			}
			has(t, g, 1, true)
			if g.Give(1); x.way {
				has(t, g, 2, true)
			}
		}
	}
}

// Ga2: a taker's own holds do not stand in its way, whatever they are.
func TestOwnHolds(t *testing.T) {
	g := taken(t, alone(upTo("a", "c"), upTo("a", "c"), onwards("")), shared(upTo("a", "b")))
	has(t, g, 1, true)
	ahead(t, g, 1)
	ahead(t, g, 2, 1)
}

// Ga2: who waits stands in the way of later ones too: they are served by their tickets, not by what is free.
func TestWhoWaitsIsInTheWay(t *testing.T) {
	g := taken(t, shared(upTo("a", "b")), alone(upTo("a", "c")), shared(upTo("a", "b")), shared(upTo("b", "c")), shared(upTo("c", "d")))
	for i, want := range []bool{true, false, false, false, true} {
		has(t, g, uint64(i+1), want)
	}
	ahead(t, g, 3, 2)
	ahead(t, g, 4, 2)
	g.Give(2)
	has(t, g, 3, true)
	has(t, g, 4, true)
}

// Ga2: one that is given back ungranted makes way as one that was granted does.
func TestGiveOfWhoIsNotGranted(t *testing.T) {
	all := alone(onwards(""))
	g := taken(t, all, all, all, all)
	g.Give(3)
	ahead(t, g, 4, 1, 2)
	g.Give(1)
	ahead(t, g, 4, 2)
	has(t, g, 2, true)
	g.Give(2)
	has(t, g, 4, true)
}

// Ga1, Ga2: at the limits: 256 takers of 256 holds each, that meet nowhere but in one key, so that all must be looked at.
func TestAllLimits(t *testing.T) {
	g, p := gap.New(), newPlain()
	for taker := range 256 {
		var l []api.Hold
		for i := range 255 {
			place := key(i*256 + taker)
			l = append(l, api.Hold{Range: upTo(place, place+"\x00"), Alone: i%2 == 0})
		}
		l = append(l, api.Hold{Range: onwards("z"), Alone: taker%16 == 0})
		take(t, g, p, l)
	}
	for _, ticket := range []uint64{1, 17, 18, 256} {
		tells(t, g, p, ticket)
	}
	ahead(t, g, 34, 1, 17, 33)
	give(t, g, p, 17)
	give(t, g, p, 1)
	tells(t, g, p, 33)
	tells(t, g, p, 34)
}
