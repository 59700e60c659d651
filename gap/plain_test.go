package gap_test

import (
	"slices"
	"strings"
	"testing"

	"vellum/api"
	"vellum/gap"
)

// plain is takers as one caller sees them: the words of the chapter, one by one.
type plain struct {
	next  uint64
	there []plainTaker
}

type plainTaker struct {
	ticket uint64
	holds  []api.Hold
}

func newPlain() *plain { return &plain{next: 1} }

func (p *plain) take(l []api.Hold) (uint64, api.Errno) {
	if len(l) > 256 || len(p.there) >= 256 {
		return 0, 2
	}
	p.there = append(p.there, plainTaker{p.next, slices.Clone(l)})
	p.next++
	return p.next - 1, 0
}

func (p *plain) find(ticket uint64) int {
	return slices.IndexFunc(p.there, func(x plainTaker) bool { return x.ticket == ticket })
}

func (p *plain) ahead(ticket uint64) ([]uint64, api.Errno) {
	i := p.find(ticket)
	if i < 0 {
		return nil, 130
	}
	var l []uint64
	for _, x := range p.there {
		if x.ticket < ticket && inWay(x.holds, p.there[i].holds) {
			l = append(l, x.ticket)
		}
	}
	return l, 0
}

func (p *plain) has(ticket uint64) (bool, api.Errno) {
	l, err := p.ahead(ticket)
	return err == 0 && len(l) == 0, err
}

func (p *plain) give(ticket uint64) api.Errno {
	i := p.find(ticket)
	if i < 0 {
		return 130
	}
	p.there = slices.Delete(p.there, i, i+1)
	return 0
}

func (p *plain) tickets() []uint64 {
	var l []uint64
	for _, x := range p.there {
		l = append(l, x.ticket)
	}
	return l
}

// inWay is whether one of these holds is in the way of one of those.
func inWay(a, b []api.Hold) bool {
	for _, x := range a {
		for _, y := range b {
			if (x.Alone || y.Alone) && shareKey(x.Range, y.Range) {
				return true
			}
		}
	}
	return false
}

// shareKey: if some key is in both ranges, then the greater one of their beginnings is.
func shareKey(a, b api.Range) bool {
	key := max(a.Lo, b.Lo)
	return isIn(a, key) && isIn(b, key)
}

func isIn(r api.Range, key string) bool { return key >= r.Lo && (r.Open || key < r.Hi) }

func upTo(lo, hi string) api.Range { return api.Range{Lo: lo, Hi: hi} }
func onwards(lo string) api.Range  { return api.Range{Lo: lo, Open: true} }

func alone(l ...api.Range) []api.Hold  { return holds(true, l) }
func shared(l ...api.Range) []api.Hold { return holds(false, l) }

func holds(alone bool, l []api.Range) []api.Hold {
	var made []api.Hold
	for _, r := range l {
		made = append(made, api.Hold{Range: r, Alone: alone})
	}
	return made
}

// ranges is those that the chapters tell apart: without keys, of one key, with an end and without, that touch, and that differ in a last byte.
func ranges() []api.Range {
	long := strings.Repeat("b", 3000)
	return []api.Range{
		{}, upTo("a", "a"), upTo("c", "a"), upTo("b", ""), upTo("", "a"), upTo("", "\x00"), upTo("", "z"), upTo("a", "b"), upTo("a", "c"), upTo("b", "c"), upTo("b", "d"), upTo("c", "d"),
		upTo("a", "a\x00"), upTo("a\x00", "b"), upTo("a\x00", "a\x00\x00"), upTo("b", "b\xff"), upTo("b\xff", "c"), upTo("\xff\xff", "\xff\xff\x00"),
		onwards(""), onwards("b"), onwards("b\x00"), onwards("d"), onwards("\xff\xff\xff"), {Lo: "b", Hi: "a", Open: true}, {Lo: "b", Hi: "c", Open: true}, {Hi: "b", Open: true},
		upTo(long, long+"\x00"), upTo("a", long), upTo(long, "c"), onwards(long),
	}
}

// take, and give below, do a call on both, which must be told the same.
func take(t *testing.T, g *gap.Gaps, p *plain, l []api.Hold) uint64 {
	t.Helper()
	ticket, err := g.Take(l)
	if want, wantErr := p.take(l); ticket != want || err != wantErr {
		t.Fatalf("Take = %d, %d, want %d, %d", ticket, err, want, wantErr)
	}
	return ticket
}

func give(t *testing.T, g *gap.Gaps, p *plain, ticket uint64) {
	t.Helper()
	if err, want := g.Give(ticket), p.give(ticket); err != want {
		t.Fatalf("Give(%d) = %d, want %d", ticket, err, want)
	}
}

// shows holds all that is told of takers against the plain ones, of those that are there and of some that are not.
func shows(t *testing.T, g *gap.Gaps, p *plain) {
	t.Helper()
	if l := g.Tickets(); !slices.Equal(l, p.tickets()) {
		t.Fatalf("Tickets = %v, want %v", l, p.tickets())
	}
	for _, ticket := range append(p.tickets(), 0, 1, 2, p.next-1, p.next, p.next+1, 1<<63, 1<<64-1) {
		tells(t, g, p, ticket)
	}
}

// tells is shows for one ticket. Wait is asked where it ends at once.
func tells(t *testing.T, g *gap.Gaps, p *plain, ticket uint64) {
	t.Helper()
	wantHas, wantErr := p.has(ticket)
	if has, err := g.Has(ticket); has != wantHas || err != wantErr {
		t.Fatalf("Has(%d) = %v, %d, want %v, %d", ticket, has, err, wantHas, wantErr)
	}
	want, _ := p.ahead(ticket)
	if l, err := g.Ahead(ticket); !slices.Equal(l, want) || err != wantErr {
		t.Fatalf("Ahead(%d) = %v, %d, want %v, %d", ticket, l, err, want, wantErr)
	}
	if wantHas || wantErr != api.OK {
		if err := g.Wait(ticket); err != wantErr {
			t.Fatalf("Wait(%d) = %d, want %d", ticket, err, wantErr)
		}
	}
}

// chance is a row of numbers that looks like it.
type chance struct{ r uint64 }

func (c *chance) below(n int) int {
	c.r = c.r*6364136223846793005 + 1442695040888963407
	return int(c.r >> 33 % uint64(n))
}

// holds is up to so many holds, over so many places, few of them alone; of four ranges one has no end, or no keys.
func (c *chance) holds(most, places int) []api.Hold {
	l := make([]api.Hold, c.below(most+1))
	for i := range l {
		lo := c.below(places)
		r := upTo(key(lo), key(lo+1+c.below(3)))
		switch c.below(40) {
		case 0:
			r = onwards(key(lo))
		case 1, 2, 3, 4:
			r.Hi = key(max(0, lo-c.below(3)))
		}
		l[i] = api.Hold{Range: r, Alone: c.below(3) == 0}
	}
	return l
}

// key is the key of a place: they rise with it.
func key(place int) string { return string([]byte{'k', byte(place >> 8), byte(place)}) }
