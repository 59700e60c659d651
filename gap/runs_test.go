package gap_test

import (
	"slices"
	"testing"

	"vellum/api"
	"vellum/gap"
)

// Ga1, Ga2: every row of five calls that change something, with four kinds of holds and four tickets: told as the plain ones tell, and shown so behind each.
func TestAllRowsOfCalls(t *testing.T) {
	kinds := [][]api.Hold{
		alone(upTo("a", "c")), shared(upTo("b", "d")),
		append(shared(upTo("a", "b"), upTo("c", "d")), alone(upTo("d", "e"))...),
		alone(upTo("c", "e")),
	}
	for row := range 8 * 8 * 8 * 8 * 8 {
		g, p := gap.New(), newPlain()
		for n, left := row, 5; left > 0; n, left = n/8, left-1 {
			if n%8 < 4 {
				take(t, g, p, kinds[n%8])
			} else {
				give(t, g, p, uint64(n%8-3))
			}
			shows(t, g, p)
		}
	}
}

// Ga1, Ga2: long runs, of few takers and of as many as may be, with few holds and with many, on few keys and on many.
func TestRunsAgainstThePlainOnes(t *testing.T) {
	for turn, size := range [][4]int{{4, 2, 6, 4000}, {12, 5, 12, 3000}, {40, 3, 200, 1500}, {40, 30, 400, 600}, {256, 2, 60, 900}, {20, 256, 2000, 200}} {
		g, p, c := gap.New(), newPlain(), chance{r: uint64(turn)}
		for i := range size[3] {
			if there := p.tickets(); len(there) > 0 && c.below(size[0]) < len(there)-size[0]/2 {
				give(t, g, p, there[c.below(len(there))])
			} else {
				take(t, g, p, c.holds(size[1], size[2]))
			}
			if i%max(1, size[0]/8) == 0 {
				shows(t, g, p)
			}
		}
		shows(t, g, p)
		for _, ticket := range p.tickets() {
			give(t, g, p, ticket)
		}
		shows(t, g, p)
	}
}

// Ga4: in any run: the least ticket that is there is granted; no two that are granted are in each other's way; who stands ahead has a lesser ticket, and is there; and who is granted stays so till it is given back.
func TestWhatFollows(t *testing.T) {
	g, c := gap.New(), chance{r: 77}
	lists, granted := map[uint64][]api.Hold{}, map[uint64]bool{}
	for range 3000 {
		there := g.Tickets()
		if len(there) > 0 && c.below(24) < len(there) {
			gone := there[c.below(len(there))]
			g.Give(gone)
			delete(lists, gone)
			delete(granted, gone)
		} else {
			l := c.holds(3, 12)
			ticket, _ := g.Take(l)
			lists[ticket] = l
		}
		there = g.Tickets()
		for i, ticket := range there {
			is, err := g.Has(ticket)
			l, _ := g.Ahead(ticket)
			if err != api.OK || is != (len(l) == 0) || i == 0 && !is || granted[ticket] && !is {
				t.Fatalf("of %d, the %dth: Has %v, %d, Ahead %v, was granted: %v", ticket, i, is, err, l, granted[ticket])
			}
			if !slices.IsSorted(l) || slices.ContainsFunc(l, func(x uint64) bool { return x >= ticket || !slices.Contains(there, x) }) {
				t.Fatalf("Ahead(%d) = %v, of %v", ticket, l, there)
			}
			if granted[ticket] = is; !is {
				continue
			}
			for _, other := range there[:i] {
				if granted[other] && inWay(lists[other], lists[ticket]) {
					t.Fatalf("%d and %d are granted both", other, ticket)
				}
			}
		}
	}
}

// Ga2: in whatever order takers go, all others are told as if those had never been there.
func TestOrderOfGoing(t *testing.T) {
	c := chance{r: 5}
	for range 200 {
		var l [][]api.Hold
		for range 12 {
			l = append(l, c.holds(3, 10))
		}
		g, p := gap.New(), newPlain()
		for _, holds := range l {
			take(t, g, p, holds)
		}
		for left := p.tickets(); len(left) > 0; {
			i := c.below(len(left))
			give(t, g, p, left[i])
			left = slices.Delete(left, i, i+1)
			shows(t, g, p)
		}
	}
}

// R4: Gaps know nothing of one another.
func TestGapsApart(t *testing.T) {
	one, two := gap.New(), gap.New()
	p, q := newPlain(), newPlain()
	all := alone(onwards(""))
	for range 3 {
		take(t, one, p, all)
	}
	shows(t, two, q)
	take(t, two, q, all)
	give(t, one, p, 1)
	shows(t, two, q)
	give(t, two, q, 1)
	shows(t, one, p)
	shows(t, two, q)
}
