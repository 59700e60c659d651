package gap_test

import (
	"cmp"
	"math"
	"runtime"
	"slices"
	"testing"
	"time"

	"vellum/api"
	"vellum/gap"
)

// crowd is a Crowd that must be let, and holds what Ga3 says of all crowds.
func crowd(t *testing.T, l [][]api.Hold, rounds int) [][]api.Turn {
	t.Helper()
	turns, err := gap.Crowd(l, rounds)
	if err != api.OK || len(turns) != len(l) {
		t.Fatalf("Crowd of %d lists: %d answers, error %d", len(l), len(turns), err)
	}
	var tickets, counts []uint64
	for i, own := range turns {
		if len(own) != rounds {
			t.Fatalf("list %d has %d turns, want %d", i, len(own), rounds)
		}
		for _, x := range own {
			tickets, counts = append(tickets, x.Ticket), append(counts, x.From, x.To)
		}
		inTurn(t, own)
		if !slices.IsSortedFunc(own, byTicket) {
			t.Fatalf("list %d has the turns %v", i, own)
		}
		for k := range i {
			if inWay(l[i], l[k]) {
				both := slices.Concat(own, turns[k])
				slices.SortFunc(both, byTicket)
				inTurn(t, both)
			}
		}
	}
	slices.Sort(tickets)
	slices.Sort(counts)
	if !slices.Equal(tickets, numbers(1, uint64(len(l)*rounds))) || !slices.Equal(counts, numbers(1, uint64(2*len(l)*rounds))) {
		t.Fatalf("tickets %v, counts %v", tickets, counts)
	}
	return turns
}

func byTicket(a, b api.Turn) int { return cmp.Compare(a.Ticket, b.Ticket) }

// inTurn holds that each turn ends ahead of the next one's beginning.
func inTurn(t *testing.T, l []api.Turn) {
	t.Helper()
	for i, x := range l {
		if x.From >= x.To || i > 0 && l[i-1].To >= x.From {
			t.Fatalf("turns %v", l[max(0, i-1):i+1])
		}
	}
}

// Ga3: what a crowd of one is told: there is one order alone.
func TestCrowdOfOne(t *testing.T) {
	for _, l := range [][]api.Hold{nil, alone(onwards("")), shared(upTo("a", "b"), upTo("c", "d")), alone(upTo("b", "a"))} {
		turns := crowd(t, [][]api.Hold{l}, 3)
		if want := []api.Turn{{Ticket: 1, From: 1, To: 2}, {Ticket: 2, From: 3, To: 4}, {Ticket: 3, From: 5, To: 6}}; !slices.Equal(turns[0], want) {
			t.Errorf("Crowd = %v, want %v", turns, want)
		}
	}
}

// Ga3: no lists, and no rounds.
func TestCrowdOfNothing(t *testing.T) {
	crowd(t, nil, 0)
	crowd(t, nil, 256)
	crowd(t, [][]api.Hold{}, 5)
	crowd(t, [][]api.Hold{nil, alone(onwards("")), {}}, 0)
	crowd(t, [][]api.Hold{nil, {}}, 1)
}

// Ga3: all in each other's way: turns one behind the other, by their tickets.
func TestCrowdsThatMeet(t *testing.T) {
	for _, size := range [][2]int{{2, 256}, {3, 1}, {8, 100}, {64, 40}} {
		turns := crowd(t, slices.Repeat([][]api.Hold{alone(upTo("a", "z"))}, size[0]), size[1])
		for _, x := range slices.Concat(turns...) {
			if x.From != 2*x.Ticket-1 || x.To != 2*x.Ticket {
				t.Fatalf("turn %v", x)
			}
		}
	}
}

// Ga3: lists of all kinds, of which some are in each other's way.
func TestMixedCrowds(t *testing.T) {
	c := chance{r: 3}
	for _, size := range [][4]int{{3, 2, 6, 200}, {8, 3, 12, 100}, {16, 1, 4, 200}, {40, 4, 60, 60}, {64, 2, 30, 50}, {6, 200, 1000, 50}} {
		for range 8 {
			var l [][]api.Hold
			for range size[0] {
				l = append(l, c.holds(size[1], size[2]))
			}
			crowd(t, l, size[3])
		}
	}
}

// Ga3: one that has a range alone, and many that share it; and a line in which each meets the next one alone.
func TestCrowdsOfSharers(t *testing.T) {
	for range 10 {
		crowd(t, append(slices.Repeat([][]api.Hold{shared(onwards("b"))}, 20), alone(upTo("a", "c"))), 50)
		var row [][]api.Hold
		for i := range 30 {
			row = append(row, alone(upTo(key(i), key(i+1)+"\x00")))
		}
		crowd(t, row, 50)
	}
}

// Ga3: the goroutines of a crowd work side by side: sooner or later one has its turn between two of another one's; and, where they are not in each other's way, within one of another one's.
func TestCrowdsMingle(t *testing.T) {
	// On one processor a crowd's goroutines may be done too soon to be held up in their midst.
	defer runtime.GOMAXPROCS(runtime.GOMAXPROCS(4))
	mingled, within := false, false
	for try := 0; try < 5000 && !(mingled && within); try++ {
		turns := crowd(t, [][]api.Hold{shared(onwards("")), shared(onwards("")), alone(upTo("", ""))}, 256)
		first, last := turns[0][0].Ticket, turns[0][255].Ticket
		mingled = mingled || slices.ContainsFunc(turns[1], func(x api.Turn) bool { return x.Ticket > first && x.Ticket < last })
		within = within || slices.ContainsFunc(slices.Concat(turns...), func(x api.Turn) bool { return x.To > x.From+1 })
	}
	if !mingled || !within {
		t.Errorf("mingled %v, within one another %v", mingled, within)
	}
}

// Ga3, R2: each error alone, and of several the one that is named first, with nothing beside it.
func TestCrowdRefuses(t *testing.T) {
	all := alone(onwards(""))
	many := slices.Repeat([][]api.Hold{all}, 65)
	long := [][]api.Hold{all, nil, slices.Repeat(all, 257)}
	tests := []struct {
		l      [][]api.Hold
		rounds int
		want   api.Errno
	}{
		{many, 1, api.ErrFull}, {many, 0, api.ErrFull}, {make([][]api.Hold, 65), 1, api.ErrFull}, {make([][]api.Hold, 1000), 0, api.ErrFull},
		{long, 1, api.ErrFull}, {long, 0, api.ErrFull}, {[][]api.Hold{slices.Repeat(alone(api.Range{}), 300)}, 5, api.ErrFull},
		{[][]api.Hold{all}, -1, api.ErrArg}, {[][]api.Hold{all}, 257, api.ErrArg}, {nil, 257, api.ErrArg}, {nil, -1, api.ErrArg},
		{nil, math.MaxInt, api.ErrArg}, {nil, math.MinInt, api.ErrArg}, {many[:64], 1 << 32, api.ErrArg},
		{many, -1, api.ErrFull}, {many, 257, api.ErrFull}, {long, 257, api.ErrFull}, {long, -1, api.ErrFull},
	}
	for i, x := range tests {
		if turns, err := gap.Crowd(x.l, x.rounds); len(turns) != 0 || err != x.want {
			t.Errorf("%d: Crowd of %d lists, %d rounds = %v, %d, want %d", i, len(x.l), x.rounds, turns, err, x.want)
		}
	}
}

// Ga3: the limits themselves are let: 64 lists of 256 holds, 256 rounds; where all meet, and where none do, so that all holds must be looked at.
func TestCrowdAtItsLimits(t *testing.T) {
	apart := make([][]api.Hold, 64)
	for i := range apart {
		for k := range 256 {
			apart[i] = append(apart[i], alone(upTo(key(k*64+i), key(k*64+i+1)))...)
		}
	}
	crowd(t, apart, 256)
	crowd(t, slices.Repeat([][]api.Hold{slices.Repeat(alone(onwards("")), 256)}, 64), 256)
}

// R4: crowds that run at one time do not know of one another.
func TestCrowdsSideBySide(t *testing.T) {
	together(6, func(w int) {
		for range 10 {
			crowd(t, slices.Repeat([][]api.Hold{alone(upTo("a", "b")), shared(onwards("a"))}, w+1), 20)
		}
	})
}

// Ga3, Ways: when a crowd answers, all its goroutines have ended.
func TestCrowdLeavesNoGoroutine(t *testing.T) {
	was := runtime.NumGoroutine()
	for range 50 {
		crowd(t, slices.Repeat([][]api.Hold{alone(onwards("")), nil}, 20), 10)
	}
	// A goroutine that is done with its work is still counted for a moment.
	for wait := 0; runtime.NumGoroutine() > was && wait < 500; wait++ {
		time.Sleep(time.Millisecond)
	}
	if is := runtime.NumGoroutine(); is > was {
		t.Errorf("%d goroutines, there were %d", is, was)
	}
}
