package valid_test

import (
	"fmt"
	"math"
	"testing"

	"vellum/api"
)

// Vd3: by its level: committed always; snapshot, if nobody wrote its rows; serial, if nobody wrote what it reads, too.
func TestTry(t *testing.T) {
	l := logOf(t, foot("", "a"), foot("", "b"), foot("", "a"))
	for _, c := range []struct {
		reads, writes string
		from          uint64
		level         int
		want          api.Clash
		err           api.Errno
	}{
		{"ab", "ab", 0, api.LevelCommitted, api.Clash{}, api.OK},
		{"ab", "ab", 0, api.LevelSnapshot, clash(10, row("a")), api.ErrNewer},
		{"ab", "ab", 0, api.LevelSerial, clash(10, row("a")), api.ErrNewer},
		{"ab", "", 0, api.LevelSnapshot, api.Clash{}, api.OK},
		{"ab", "x", 0, api.LevelSnapshot, api.Clash{}, api.OK},
		{"ba", "", 0, api.LevelSerial, clash(10, row("a")), api.ErrSerial},
		{"ba", "x", 10, api.LevelSerial, clash(20, row("b")), api.ErrSerial},
		{"ba", "x", 20, api.LevelSerial, clash(30, row("a")), api.ErrSerial},
		{"ba", "ab", 30, api.LevelSerial, api.Clash{}, api.OK},
		{"ba", "ab", math.MaxUint64, api.LevelSerial, api.Clash{}, api.OK},
		{"x", "y", 0, api.LevelSerial, api.Clash{}, api.OK},
		{"", "", 0, api.LevelSerial, api.Clash{}, api.OK},
		// A row that was written is told ahead of what was read, though that came earlier.
		{"a", "b", 0, api.LevelSerial, clash(20, row("b")), api.ErrNewer},
		{"b", "a", 10, api.LevelSerial, clash(30, row("a")), api.ErrNewer},
		{"a", "b", 20, api.LevelSerial, clash(30, row("a")), api.ErrSerial},
		{"a", "b", 20, api.LevelSnapshot, api.Clash{}, api.OK},
	} {
		what := fmt.Sprintf("reads %q, writes %q, from %d, level %d", c.reads, c.writes, c.from, c.level)
		wantsTry(t, what, l, api.Attempt{From: c.from, Foot: foot(c.reads, c.writes), Level: c.level}, c.want, c.err)
		wantsStamps(t, what, l, 10, 20, 30)
	}
}

// Vd3: a row that comes into a range that was read.
func TestTryPhantom(t *testing.T) {
	l := logOf(t, foot("", "m"))
	for level, want := range map[int]api.Errno{api.LevelCommitted: api.OK, api.LevelSnapshot: api.OK, api.LevelSerial: api.ErrSerial} {
		met := api.Clash{}
		if want != api.OK {
			met = clash(10, row("m"))
		}
		wantsTry(t, "a range", l, api.Attempt{From: 9, Foot: over(upTo("k", "p")), Level: level}, met, want)
		wantsTry(t, "a range that is seen", l, api.Attempt{From: 10, Foot: over(upTo("k", "p")), Level: level}, api.Clash{}, api.OK)
		wantsTry(t, "a range beside it", l, api.Attempt{From: 9, Foot: over(upTo("k", "m")), Level: level}, api.Clash{}, api.OK)
	}
}

// Vd3: an entry of an index that both write is no row; but who reads it meets it.
func TestTryEntries(t *testing.T) {
	entry := []api.Point{point(0, 0, "e")}
	l := logOf(t, api.Foot{Writes: entry})
	wantsTry(t, "who writes it", l, api.Attempt{Foot: api.Foot{Writes: entry}, Level: api.LevelSerial}, api.Clash{}, api.OK)
	wantsTry(t, "who reads it", l, api.Attempt{Foot: api.Foot{Points: entry, Writes: entry}, Level: api.LevelSerial}, clash(10, entry[0]), api.ErrSerial)
	wantsTry(t, "who reads it, a snapshot", l, api.Attempt{Foot: api.Foot{Points: entry, Writes: entry}, Level: api.LevelSnapshot}, api.Clash{}, api.OK)
}

// Vd3: what Check refuses is told ahead of ErrLevel, and that ahead of what is met.
func TestTryRefuses(t *testing.T) {
	l := logOf(t, foot("", "a"))
	none := []int{math.MinInt, -1, 0, 4, 5, math.MaxInt}
	for name, b := range badFeet() {
		for _, level := range append([]int{1, 2, 3}, none...) {
			wantsTry(t, name, l, api.Attempt{Foot: b.foot, Level: level}, api.Clash{}, b.err)
		}
	}
	for _, level := range none {
		wantsTry(t, "no level", l, api.Attempt{Foot: foot("a", "a"), Level: level}, api.Clash{}, api.ErrLevel)
		wantsTry(t, "no level, of nothing", l, api.Attempt{From: 20, Level: level}, api.Clash{}, api.ErrLevel)
	}
	wantsStamps(t, "behind them", l, 10)
}
