package valid_test

import (
	"math"
	"testing"

	"vellum/api"
	"vellum/valid"
)

// Vd1: a new log has no commits.
func TestNew(t *testing.T) {
	l := valid.New()
	wantsStamps(t, "a new log", l)
	wants(t, "Trim of a new log", l.Trim(math.MaxUint64), 0)
	all := api.Foot{Points: keys("a"), Spans: over(onwards("")).Spans, Writes: keys("a")}
	wantsRead(t, "a new log", l, all, 0, api.Clash{})
	wantsWrote(t, "a new log", l, all, 0, api.Clash{})
	wantsTry(t, "a new log", l, api.Attempt{Foot: all, Level: api.LevelSerial}, api.Clash{}, api.OK)
}

// R4: logs know nothing of one another.
func TestLogsAreApart(t *testing.T) {
	a, b := valid.New(), valid.New()
	noted(t, a, 5, foot("", "a"))
	wantsStamps(t, "the other log", b)
	wantsRead(t, "the other log", b, foot("a", ""), 0, api.Clash{})
	noted(t, b, 3, foot("", "a"))
	wants(t, "Trim", b.Trim(9), 1)
	wantsStamps(t, "the log", a, 5)
	wantsRead(t, "the log", a, foot("a", ""), 0, clash(5, row("a")))
}

// Vd1: stamps from 1 to MaxStamp may be, and they rise.
func TestNoteStamps(t *testing.T) {
	l := valid.New()
	for _, stamp := range []uint64{0, 1<<62 + 1, 1 << 63, math.MaxUint64} {
		wants(t, "Note", l.Note(stamp, foot("", "a")), api.ErrArg)
	}
	wantsStamps(t, "refused", l)
	noted(t, l, 1, foot("", "a"))
	noted(t, l, 2, foot("", "a"))
	noted(t, l, 7, api.Foot{})
	for _, stamp := range []uint64{1, 2, 3, 6, 7} {
		wants(t, "Note", l.Note(stamp, foot("", "b")), api.ErrOlder)
	}
	wants(t, "Note at 0", l.Note(0, foot("", "b")), api.ErrArg)
	wantsStamps(t, "refused", l, 1, 2, 7)
	wantsRead(t, "what was refused", l, foot("b", ""), 0, api.Clash{})
	noted(t, l, 8, foot("", "b"))
	noted(t, l, 1<<62-1, foot("", "b"))
	noted(t, l, 1<<62, foot("", "c"))
	wants(t, "Note at the last stamp", l.Note(1<<62, foot("", "b")), api.ErrOlder)
	wants(t, "Note above it", l.Note(1<<62+1, foot("", "b")), api.ErrArg)
	wantsStamps(t, "all", l, 1, 2, 7, 8, 1<<62-1, 1<<62)
	wantsRead(t, "the last one", l, foot("c", ""), 1<<62-1, clash(1<<62, row("c")))
}

// Vd1: what Check refuses is told first, and nothing is kept of it.
func TestNoteRefusesFeet(t *testing.T) {
	for name, b := range badFeet() {
		l := logOf(t, foot("", "x"))
		for _, stamp := range []uint64{0, 5, 10, 11, math.MaxUint64} {
			wants(t, "Note of "+name, l.Note(stamp, b.foot), b.err)
		}
		wantsStamps(t, name, l, 10)
		wantsRead(t, name, l, foot("a", ""), 0, api.Clash{})
		wantsWrote(t, name, l, foot("", "a"), 0, api.Clash{})
		noted(t, l, 11, foot("", "a"))
	}
	l := valid.New()
	for i, f := range []api.Foot{sized(1<<16, 0, 0), sized(0, 1<<16, 0), sized(0, 0, 1<<16), sized(1<<16-2, 1, 1)} {
		noted(t, l, uint64(i+1), f)
	}
}

// Vd1: what a commit read is not asked for, and counts only for what Check refuses.
func TestNoteKeepsWritesAlone(t *testing.T) {
	f := foot("ab", "c")
	f.Spans = over(upTo("d", "g")).Spans
	l := logOf(t, f)
	wantsRead(t, "what it read", l, foot("abdef", ""), 0, api.Clash{})
	wantsWrote(t, "what it read", l, foot("", "abdef"), 0, api.Clash{})
	wantsRead(t, "what it wrote", l, foot("abcdef", ""), 0, clash(10, row("c")))
}

// Vd1: MaxLog commits are kept, and one more is refused, till some are trimmed.
func TestNoteFull(t *testing.T) {
	l := valid.New()
	for i := range uint64(4096) {
		noted(t, l, 3*i+3, foot("", "a"))
	}
	last := uint64(3 * 4096)
	wants(t, "how many", len(l.Stamps()), 4096)
	wants(t, "Note of one more", l.Note(last+1, foot("", "b")), api.ErrFull)
	wants(t, "Note at the last stamp", l.Note(1<<62, foot("", "b")), api.ErrFull)
	wants(t, "Note of one that is older", l.Note(last, foot("", "b")), api.ErrOlder)
	wants(t, "Note at 0", l.Note(0, foot("", "b")), api.ErrArg)
	wants(t, "Note of a foot that may not be", l.Note(last+1, sized(0, 0, 1<<16+1)), api.ErrFull)
	wants(t, "Note of another one", l.Note(last+1, api.Foot{Points: []api.Point{point(-1, 0, "")}}), api.ErrArg)
	wants(t, "how many", len(l.Stamps()), 4096)
	wantsRead(t, "what was refused", l, foot("b", ""), 0, api.Clash{})
	wants(t, "Trim below the first one", l.Trim(2), 0)
	wants(t, "Note of one more", l.Note(last+1, foot("", "b")), api.ErrFull)
	wants(t, "Trim", l.Trim(3), 1)
	noted(t, l, last+1, foot("", "b"))
	wants(t, "Note of one more", l.Note(last+2, foot("", "b")), api.ErrFull)
	stamps := l.Stamps()
	wants(t, "how many", len(stamps), 4096)
	wants(t, "the first one", stamps[0], 6)
	wants(t, "the last one", stamps[4095], last+1)
	wantsRead(t, "the last one", l, foot("b", ""), 0, clash(last+1, row("b")))
	wantsRead(t, "the first one", l, foot("a", ""), 0, clash(6, row("a")))
}

// Vd1: those at the floor go with those below it.
func TestTrim(t *testing.T) {
	for _, c := range []struct {
		floor uint64
		n     int
		left  []uint64
	}{
		{0, 0, []uint64{10, 20, 30}}, {9, 0, []uint64{10, 20, 30}}, {10, 1, []uint64{20, 30}}, {11, 1, []uint64{20, 30}},
		{19, 1, []uint64{20, 30}}, {20, 2, []uint64{30}}, {29, 2, []uint64{30}}, {30, 3, nil}, {31, 3, nil},
		{1 << 62, 3, nil}, {1<<62 + 1, 3, nil}, {math.MaxUint64, 3, nil},
	} {
		l := logOf(t, foot("", "ab"), foot("", "bc"), foot("", "ca"))
		wants(t, "Trim", l.Trim(c.floor), c.n)
		wantsStamps(t, "behind Trim", l, c.left...)
		wants(t, "Trim again", l.Trim(c.floor), 0)
		wantsStamps(t, "behind Trim again", l, c.left...)
	}
}

// Vd1: what was trimmed is met no more, and what others wrote of the same points still is.
func TestTrimmedIsMetNoMore(t *testing.T) {
	l := logOf(t, foot("", "abx"), foot("", "bc"), foot("", "ca"))
	wantsRead(t, "a", l, foot("a", ""), 0, clash(10, row("a")))
	l.Trim(10)
	wantsRead(t, "a", l, foot("a", ""), 0, clash(30, row("a")))
	wantsRead(t, "b", l, foot("b", ""), 0, clash(20, row("b")))
	wantsRead(t, "x", l, foot("x", ""), 0, api.Clash{})
	wantsRead(t, "a range", l, over(onwards("")), 0, clash(20, row("b")))
	wantsWrote(t, "a", l, foot("", "ax"), 0, clash(30, row("a")))
	l.Trim(25)
	wantsRead(t, "b", l, foot("b", ""), 0, api.Clash{})
	wantsRead(t, "c", l, foot("c", ""), 0, clash(30, row("c")))
	wantsRead(t, "a range", l, over(onwards("")), 0, clash(30, row("a")))
	l.Trim(30)
	wantsRead(t, "a range", l, over(onwards("")), 0, api.Clash{})
	wantsWrote(t, "all", l, foot("", "abcx"), 0, api.Clash{})
}

// Vd1: ErrOlder is of those that are kept: behind a Trim of all an older stamp may be.
func TestNoteBehindTrim(t *testing.T) {
	l := logOf(t, foot("", "a"), foot("", "b"))
	l.Trim(10)
	wants(t, "Note", l.Note(15, foot("", "c")), api.ErrOlder)
	l.Trim(20)
	noted(t, l, 15, foot("", "c"))
	noted(t, l, 16, foot("", "a"))
	wantsStamps(t, "behind Trim", l, 15, 16)
	wantsRead(t, "a", l, foot("a", ""), 0, clash(16, row("a")))
	l.Trim(16)
	noted(t, l, 1, foot("", "a"))
	wantsRead(t, "a", l, foot("a", ""), 0, clash(1, row("a")))
}

// Of a log that New did not give nothing is kept, and Note and Try are refused, whatever they are handed.
func TestNotGiven(t *testing.T) {
	given := logOf(t, foot("", "a"))
	copied := *given
	for name, l := range map[string]*valid.Log{"nil": nil, "a zero log": {}, "a copy": &copied} {
		feet := []api.Foot{{}, foot("a", "a"), sized(0, 0, 1<<16+1), {Writes: []api.Point{point(-1, 0, "")}}}
		for _, f := range feet {
			for _, stamp := range []uint64{0, 11, math.MaxUint64} {
				wants(t, "Note of "+name, l.Note(stamp, f), api.ErrArg)
				wantsRead(t, name, l, f, stamp, api.Clash{})
				wantsWrote(t, name, l, f, stamp, api.Clash{})
				for level := range 6 {
					wantsTry(t, name, l, api.Attempt{From: stamp, Foot: f, Level: level - 1}, api.Clash{}, api.ErrArg)
				}
			}
		}
		wants(t, "Trim of "+name, l.Trim(math.MaxUint64), 0)
		wantsStamps(t, name, l)
	}
	wantsStamps(t, "the log that was copied", given, 10)
	wantsRead(t, "the log that was copied", given, foot("a", ""), 0, clash(10, row("a")))
}
