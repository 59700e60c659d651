package gap

import (
	"cmp"
	"slices"

	"vellum/api"
)

// line is who is there at one time. It never changes once others may see it: who asks goes through its takers while calls put other lines in its place.
type line struct {
	next uint64
	// takers stand by rising tickets.
	takers []*taker
}

// place is where a ticket's taker stands, or where it would.
func (x *line) place(ticket uint64) (int, bool) {
	return slices.BinarySearchFunc(x.takers, ticket, func(t *taker, ticket uint64) int { return cmp.Compare(t.ticket, ticket) })
}

func (x *line) find(ticket uint64) (*taker, bool) {
	i, there := x.place(ticket)
	if !there {
		return nil, false
	}
	return x.takers[i], true
}

// from is the takers from a ticket on.
func (x *line) from(ticket uint64) []*taker {
	i, _ := x.place(ticket)
	return x.takers[i:]
}

// with is the line with a taker behind all others, that has its next ticket.
func (x *line) with(t *taker) *line {
	return &line{next: x.next + 1, takers: slices.Concat(x.takers, []*taker{t})}
}

// without is the line without one of its takers.
func (x *line) without(t *taker) *line {
	i, _ := x.place(t.ticket)
	return &line{next: x.next, takers: slices.Concat(x.takers[:i], x.takers[i+1:])}
}

// left is those of some tickets whose takers are still there.
func (x *line) left(tickets []uint64) []uint64 {
	var left []uint64
	for _, ticket := range tickets {
		if _, there := x.place(ticket); there {
			left = append(left, ticket)
		}
	}
	return left
}

// grants tells whether a taker of the line has its ranges.
func (x *line) grants(t *taker) bool {
	// Who came last goes last, mostly: so it is soon found.
	for _, ticket := range slices.Backward(t.ahead) {
		if _, there := x.place(ticket); there {
			return false
		}
	}
	return true
}

// tellLast tells those who wait for a taker that goes from the line what became of it. It may be granted by now, and who is to tell that not have come to it: so this is looked for here too, and both tell the same.
func (x *line) tellLast(t *taker) {
	if x.grants(t) {
		t.tell(api.OK)
		return
	}
	t.tell(api.ErrTicket)
}

// tellBehind tells those who wait for takers that have their ranges, now that one has gone.
func (x *line) tellBehind(gone *taker) {
	for _, t := range x.from(gone.ticket) {
		if t.waitsFor(gone) && x.grants(t) {
			t.tell(api.OK)
		}
	}
}
