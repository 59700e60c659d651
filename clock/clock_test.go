package clock_test

import (
	"math"
	"slices"
	"testing"

	"vellum/api"
	"vellum/clock"
)

func newClock(t *testing.T, last uint64) *clock.Clock {
	t.Helper()
	c, err := clock.New(last)
	if err != api.OK || c == nil {
		t.Fatalf("New(%d) = %v, %d, want a clock", last, c, err)
	}
	return c
}

// take takes the next stamp, which must be want.
func take(t *testing.T, c *clock.Clock, want uint64) {
	t.Helper()
	if stamp, err := c.Take(); stamp != want || err != api.OK {
		t.Fatalf("Take = %d, %d, want %d", stamp, err, want)
	}
}

// takeRefused holds that Take refuses, with no stamp beside the error, and that nothing changes.
func takeRefused(t *testing.T, c *clock.Clock, want api.Errno) {
	t.Helper()
	last, frontier, open := c.Last(), c.Frontier(), c.Open()
	if stamp, err := c.Take(); stamp != 0 || err != want {
		t.Fatalf("Take = %d, %d, want 0, %d", stamp, err, want)
	}
	shows(t, c, last, frontier, open)
}

// done says Done, which must answer want.
func done(t *testing.T, c *clock.Clock, stamp uint64, want api.Errno) {
	t.Helper()
	if err := c.Done(stamp); err != want {
		t.Fatalf("Done(%d) = %d, want %d", stamp, err, want)
	}
}

func shows(t *testing.T, c *clock.Clock, last, frontier uint64, open []uint64) {
	t.Helper()
	if c.Last() != last || c.Frontier() != frontier || !slices.Equal(c.Open(), open) {
		t.Fatalf("Last %d, Frontier %d, Open %v, want %d, %d, %v", c.Last(), c.Frontier(), c.Open(), last, frontier, open)
	}
}

// plain is a clock of plain numbers: the words of the chapter, one by one.
type plain struct {
	first, last uint64
	open        map[uint64]int
}

func (p *plain) take() (uint64, api.Errno) {
	if p.last == 1<<62 {
		return 0, api.ErrEnd
	}
	if p.last-p.frontier() == 4096 {
		return 0, api.ErrFull
	}
	p.last++
	p.open[p.last] = 1
	return p.last, api.OK
}

func (p *plain) done(stamp uint64) api.Errno {
	if p.open[stamp] == 0 {
		return api.ErrStamp
	}
	delete(p.open, stamp)
	return api.OK
}

func (p *plain) frontier() uint64 {
	f := p.last
	for stamp := range p.open {
		f = min(f, stamp-1)
	}
	return max(f, p.first)
}

func (p *plain) list() []uint64 {
	var l []uint64
	for stamp := range p.open {
		l = append(l, stamp)
	}
	slices.Sort(l)
	return l
}

// Cl1, R2: New refuses what is above 2^62, with no clock beside the error.
func TestNewRefuses(t *testing.T) {
	for _, last := range []uint64{1<<62 + 1, 1<<62 + 4096, 1 << 63, math.MaxUint64 - 1, math.MaxUint64} {
		if c, err := clock.New(last); err != api.ErrArg || c != nil {
			t.Errorf("New(%d) = %v, %d, want nil, ErrArg", last, c, err)
		}
	}
}

// Cl1: a new clock's last stamp and its frontier are the one with which it begins, and nothing is open.
func TestNewBeginsBehindItsStamp(t *testing.T) {
	for _, last := range []uint64{0, 1, 5, 4095, 4096, 4097, 1 << 40, 1<<62 - 1, 1 << 62} {
		shows(t, newClock(t, last), last, last, nil)
	}
}

// Cl1: the chapter's first example.
func TestExampleOfTheFrontier(t *testing.T) {
	c := newClock(t, 5)
	for want := uint64(6); want <= 8; want++ {
		take(t, c, want)
	}
	done(t, c, 7, api.OK)
	shows(t, c, 8, 5, []uint64{6, 8})
	done(t, c, 6, api.OK)
	shows(t, c, 8, 7, []uint64{8})
	done(t, c, 6, api.ErrStamp)
	done(t, c, 9, api.ErrStamp)
	shows(t, c, 8, 7, []uint64{8})
}

// Cl1: the chapter's second example, and the last stamp of all, which is taken and done as any other.
func TestTakeAtTheEnd(t *testing.T) {
	takeRefused(t, newClock(t, 1<<62), api.ErrEnd)
	c := newClock(t, 1<<62-2)
	take(t, c, 1<<62-1)
	take(t, c, 1<<62)
	takeRefused(t, c, api.ErrEnd)
	done(t, c, 1<<62, api.OK)
	shows(t, c, 1<<62, 1<<62-2, []uint64{1<<62 - 1})
	takeRefused(t, c, api.ErrEnd)
	done(t, c, 1<<62-1, api.OK)
	shows(t, c, 1<<62, 1<<62, nil)
	takeRefused(t, c, api.ErrEnd)
	done(t, c, 1<<62, api.ErrStamp)
	done(t, c, 1<<62+1, api.ErrStamp)
}

// Cl1, R2: a clock that is at its end and full says that it is at its end.
func TestTakeAtTheEndOfAFullRing(t *testing.T) {
	c := newClock(t, 1<<62-4096)
	for want := uint64(1<<62 - 4095); want < 1<<62; want++ {
		take(t, c, want)
	}
	take(t, c, 1<<62)
	takeRefused(t, c, api.ErrEnd)
	one := newClock(t, 1<<62-4097)
	for range 4096 {
		one.Take()
	}
	takeRefused(t, one, api.ErrFull)
	done(t, one, 1<<62-4096, api.OK)
	take(t, one, 1<<62)
	takeRefused(t, one, api.ErrEnd)
}

// Cl1: at most 4096 stamps lie behind the frontier, wherever the ring begins; one more is taken for each by which the frontier goes on.
func TestTakeWhereTheRingIsFull(t *testing.T) {
	for _, first := range []uint64{0, 1, 5, 4095, 4096, 4097, 1 << 33, 1<<62 - 20000} {
		c := newClock(t, first)
		var all []uint64
		for n := range uint64(4096) {
			take(t, c, first+n+1)
			all = append(all, first+n+1)
		}
		shows(t, c, first+4096, first, all)
		takeRefused(t, c, api.ErrFull)
		for n := range uint64(5000) {
			done(t, c, first+n+1, api.OK)
			take(t, c, first+4096+n+1)
			if stamp, err := c.Take(); stamp != 0 || err != api.ErrFull {
				t.Fatalf("Take = %d, %d, want 0, ErrFull", stamp, err)
			}
			done(t, c, first+n+1, api.ErrStamp)
		}
		takeRefused(t, c, api.ErrFull)
	}
}

// Cl1: a ring is full by Last less Frontier, not by how many are open: one that is not done holds up all, and lets them go at once.
func TestOneOpenStampFillsTheRing(t *testing.T) {
	c := newClock(t, 9)
	for n := range uint64(4096) {
		take(t, c, 10+n)
		if n > 0 {
			done(t, c, 10+n, api.OK)
		}
	}
	shows(t, c, 4105, 9, []uint64{10})
	takeRefused(t, c, api.ErrFull)
	done(t, c, 10, api.OK)
	shows(t, c, 4105, 4105, nil)
	for n := range uint64(4096) {
		take(t, c, 4106+n)
	}
	takeRefused(t, c, api.ErrFull)
}

// Cl1, R2: Done refuses what is not open, and changes nothing: stamps that were never given, that are done, below and above the frontier, and those that stand at an open one's place of the ring.
func TestDoneRefuses(t *testing.T) {
	c := newClock(t, 10000)
	for range 6 {
		c.Take()
	}
	for _, stamp := range []uint64{10001, 10002, 10004} {
		done(t, c, stamp, api.OK)
	}
	open := []uint64{10003, 10005, 10006}
	for _, stamp := range []uint64{0, 1, 9999, 10000, 10001, 10002, 10004, 10007, 10008, 20000, 1 << 62, 1<<62 + 1, 1 << 63, math.MaxUint64 - 1, math.MaxUint64} {
		done(t, c, stamp, api.ErrStamp)
		shows(t, c, 10006, 10002, open)
	}
	for _, stamp := range open {
		for _, rounds := range []uint64{1, 2, 1 << 20} {
			done(t, c, stamp+rounds*4096, api.ErrStamp)
			done(t, c, stamp-rounds*4096, api.ErrStamp)
		}
		shows(t, c, 10006, 10002, open)
	}
	for i, frontier := range []uint64{10004, 10005, 10006} {
		done(t, c, open[i], api.OK)
		shows(t, c, 10006, frontier, open[i+1:])
		done(t, c, open[i], api.ErrStamp)
	}
}

// Cl1: a new clock has nothing open, not even at stamp 0 or at the one with which it began.
func TestDoneOfANewClock(t *testing.T) {
	for _, first := range []uint64{0, 1, 4096, 8192, 1 << 62} {
		c := newClock(t, first)
		for _, stamp := range []uint64{0, 1, 4095, 4096, 4097, first - 1, first, first + 1, first + 4096, first - 4096} {
			done(t, c, stamp, api.ErrStamp)
		}
		shows(t, c, first, first, nil)
	}
}

// Cl1: of a clock that New did not give, ErrArg, 0 and nothing, whatever is asked and however often.
func TestClocksThatNewDidNotGive(t *testing.T) {
	var none *clock.Clock
	for _, c := range []*clock.Clock{none, new(clock.Clock), {}} {
		for range 2 {
			if stamp, err := c.Take(); stamp != 0 || err != api.ErrArg {
				t.Errorf("Take = %d, %d, want 0, ErrArg", stamp, err)
			}
			for _, stamp := range []uint64{0, 1, 1 << 62, math.MaxUint64} {
				if err := c.Done(stamp); err != api.ErrArg {
					t.Errorf("Done(%d) = %d, want ErrArg", stamp, err)
				}
			}
			if c.Frontier() != 0 || c.Last() != 0 || len(c.Open()) != 0 {
				t.Errorf("Frontier %d, Last %d, Open %v, want noughts", c.Frontier(), c.Last(), c.Open())
			}
		}
	}
}

// Cl3: in each order in which five stamps may be done, the frontier is the greatest that is below all open ones, at each step.
func TestAllOrdersOfDone(t *testing.T) {
	var try func(ahead, left []uint64)
	try = func(ahead, left []uint64) {
		if len(left) == 0 {
			holdOrder(t, ahead)
			return
		}
		for i := range left {
			rest := slices.Delete(slices.Clone(left), i, i+1)
			try(append(slices.Clone(ahead), left[i]), rest)
		}
	}
	try(nil, []uint64{4094, 4095, 4096, 4097, 4098})
}

func holdOrder(t *testing.T, order []uint64) {
	t.Helper()
	c := newClock(t, 4093)
	p := &plain{first: 4093, last: 4093, open: map[uint64]int{}}
	for range order {
		c.Take()
		p.take()
	}
	for _, stamp := range order {
		done(t, c, stamp, api.OK)
		p.done(stamp)
		shows(t, c, p.last, p.frontier(), p.list())
	}
	shows(t, c, 4098, 4098, nil)
}

// Cl1, Cl3: long runs of takes and dones, of open and of other stamps, often round the ring and up to the end, held against plain numbers at every step.
func TestRunsAgainstPlainNumbers(t *testing.T) {
	for i, first := range []uint64{0, 3, 4090, 1<<32 - 7, 1<<62 - 6000, 1<<62 - 200} {
		for _, most := range []int{1, 3, 60} {
			run(t, first, most, uint64(i*100+most))
		}
	}
}

func run(t *testing.T, first uint64, most int, seed uint64) {
	t.Helper()
	c := newClock(t, first)
	p := &plain{first: first, last: first, open: map[uint64]int{}}
	x, was := seed, first
	for range 15000 {
		x = x*6364136223846793005 + 1442695040888963407
		if open := p.list(); len(open) < most && x>>63 == 0 {
			stamp, err := c.Take()
			if want, wantErr := p.take(); stamp != want || err != wantErr {
				t.Fatalf("behind %d: Take = %d, %d, want %d, %d", first, stamp, err, want, wantErr)
			}
		} else {
			stamp := p.last + 3 - x>>40%uint64(most+6)
			if len(open) > 0 && x>>62&1 == 0 {
				stamp = open[x>>40%uint64(len(open))]
			}
			done(t, c, stamp, p.done(stamp))
		}
		shows(t, c, p.last, p.frontier(), p.list())
		if c.Frontier() < was {
			t.Fatalf("the frontier fell from %d to %d", was, c.Frontier())
		}
		was = c.Frontier()
	}
}

// Cl1: nearly full rings, with the open ones anywhere in them, held against plain numbers.
func TestFullRingsAgainstPlainNumbers(t *testing.T) {
	const first = 777
	c := newClock(t, first)
	p := &plain{first: first, last: first, open: map[uint64]int{}}
	x := uint64(1)
	for round := range 6 {
		for {
			stamp, err := c.Take()
			want, wantErr := p.take()
			if stamp != want || err != wantErr {
				t.Fatalf("round %d: Take = %d, %d, want %d, %d", round, stamp, err, want, wantErr)
			}
			if err != api.OK {
				break
			}
		}
		for range 5000 {
			x = x*6364136223846793005 + 1442695040888963407
			stamp := p.last - x>>40%4100
			done(t, c, stamp, p.done(stamp))
		}
		shows(t, c, p.last, p.frontier(), p.list())
		low := p.list()[0]
		done(t, c, low, p.done(low))
		shows(t, c, p.last, p.frontier(), p.list())
	}
}

// R2: asking changes nothing that a later call could tell.
func TestAskingChangesNothing(t *testing.T) {
	c := newClock(t, 3)
	take(t, c, 4)
	take(t, c, 5)
	done(t, c, 5, api.OK)
	for range 3 {
		shows(t, c, 5, 3, []uint64{4})
	}
}

// R3: what Open answers is new memory, its spare room too: no answer shares with the clock or with another one.
func TestOpenIsNewMemory(t *testing.T) {
	c := newClock(t, 0)
	for range 5 {
		c.Take()
	}
	one, two := c.Open(), c.Open()
	for i := range one[:cap(one)] {
		one[:cap(one)][i] = 99
	}
	if want := []uint64{1, 2, 3, 4, 5}; !slices.Equal(two, want) || !slices.Equal(c.Open(), want) {
		t.Errorf("behind writing to an answer: %v, %v", two, c.Open())
	}
	done(t, c, 1, api.OK)
	if !slices.Equal(two, []uint64{1, 2, 3, 4, 5}) {
		t.Errorf("behind Done an answer is %v", two)
	}
}

// R4: clocks know nothing of one another.
func TestClocksAreApart(t *testing.T) {
	a, b := newClock(t, 0), newClock(t, 0)
	take(t, a, 1)
	take(t, a, 2)
	take(t, b, 1)
	done(t, b, 1, api.OK)
	shows(t, a, 2, 0, []uint64{1, 2})
	shows(t, b, 1, 1, nil)
	done(t, a, 1, api.OK)
	done(t, b, 2, api.ErrStamp)
}
