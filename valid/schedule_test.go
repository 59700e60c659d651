package valid_test

import (
	"math"
	"testing"

	"vellum/api"
	"vellum/valid"
)

// attempt is one of letters of table 0's key.
func attempt(from uint64, level int, reads, writes string) api.Attempt {
	return api.Attempt{From: from, Foot: foot(reads, writes), Level: level}
}

func stamped(stamp uint64) api.Fate { return api.Fate{Stamp: stamp} }

func lost(err api.Errno, stamp uint64, p api.Point) api.Fate {
	return api.Fate{Err: err, Clash: clash(stamp, p)}
}

const (
	committed = api.LevelCommitted
	snapshot  = api.LevelSnapshot
	serial    = api.LevelSerial
)

// Vd4: the chapter's examples.
func TestExamples(t *testing.T) {
	wantsFates(t, "example 1, serial", 0, []api.Attempt{attempt(0, snapshot, "", "a"), attempt(0, serial, "a", "b")}, stamped(1), lost(api.ErrSerial, 1, row("a")))
	wantsFates(t, "example 1", 0, []api.Attempt{attempt(0, snapshot, "", "a"), attempt(0, snapshot, "a", "b"), attempt(1, snapshot, "", "b")},
		stamped(1), stamped(2), lost(api.ErrNewer, 2, row("b")))
	wantsFates(t, "write skew of snapshots", 0, []api.Attempt{attempt(0, snapshot, "ab", "a"), attempt(0, snapshot, "ab", "b")}, stamped(1), stamped(2))
	wantsFates(t, "write skew", 0, []api.Attempt{attempt(0, serial, "ab", "a"), attempt(0, serial, "ab", "b")}, stamped(1), lost(api.ErrSerial, 1, row("a")))
}

// Vd4: stamps go on behind last; who is refused takes none, and leaves nothing in the log.
func TestScheduleStamps(t *testing.T) {
	l := []api.Attempt{
		attempt(7, serial, "", ""),
		attempt(7, serial, "", "a"),
		attempt(8, serial, "b", "ac"),
		attempt(8, serial, "c", "d"),
		attempt(8, 4, "", "d"),
		attempt(8, 0, "", "d"),
		attempt(8, serial, "d", "e"),
		attempt(9, committed, "e", "a"),
		attempt(9, snapshot, "e", "a"),
		attempt(10, snapshot, "e", "a"),
		attempt(11, serial, "e", "f"),
		attempt(99, serial, "ae", "ae"),
	}
	wantsFates(t, "many", 7, l, stamped(8), stamped(9), lost(api.ErrNewer, 9, row("a")), stamped(10), api.Fate{Err: api.ErrLevel}, api.Fate{Err: api.ErrLevel},
		lost(api.ErrSerial, 10, row("d")), stamped(11), lost(api.ErrNewer, 11, row("a")), lost(api.ErrNewer, 11, row("a")), stamped(12), stamped(13))
	wantsFates(t, "nothing", 0, nil)
	wantsFates(t, "nothing at the last stamp", 1<<62, []api.Attempt{})
}

// Vd4: feet that may not be are refused one by one, and others go on.
func TestScheduleRefusesFeet(t *testing.T) {
	for name, b := range badFeet() {
		l := []api.Attempt{{Foot: b.foot, Level: serial}, attempt(0, serial, "a", "a"), {Foot: b.foot, Level: 9}, attempt(1, serial, "a", "a")}
		wantsFates(t, name, 0, l, api.Fate{Err: b.err}, stamped(1), api.Fate{Err: b.err}, stamped(2))
	}
}

// Vd4: at MaxStamp no stamp is left; what Try refuses is told ahead of that.
func TestScheduleEnd(t *testing.T) {
	most := uint64(1) << 62
	end := api.Fate{Err: api.ErrEnd}
	wantsFates(t, "the last stamp", most-1, []api.Attempt{
		attempt(0, serial, "", "a"), attempt(0, serial, "", ""), attempt(0, serial, "b", "b"), attempt(0, serial, "a", "b"), attempt(0, snapshot, "", "a"),
		attempt(0, committed, "", "a"), attempt(0, 0, "", ""), attempt(most, serial, "a", "a"),
	}, stamped(most), end, end, lost(api.ErrSerial, most, row("a")), lost(api.ErrNewer, most, row("a")), end, api.Fate{Err: api.ErrLevel}, end)
	wantsFates(t, "behind the last stamp", most, []api.Attempt{attempt(0, serial, "", "a"), attempt(0, serial, "a", ""), attempt(0, 4, "", ""), {Foot: sized(1<<16+1, 0, 0)}},
		end, end, api.Fate{Err: api.ErrLevel}, api.Fate{Err: api.ErrFull})
	wantsFates(t, "ahead of the last stamps", most-2, []api.Attempt{attempt(0, serial, "", "a"), attempt(0, serial, "", "b"), attempt(0, serial, "", "c")}, stamped(most-1), stamped(most), end)
}

// Vd4: a last above MaxStamp, then more than MaxLog attempts.
func TestScheduleRefuses(t *testing.T) {
	many := make([]api.Attempt, 4097)
	for i := range many {
		many[i] = attempt(uint64(i), serial, "a", "a")
	}
	for _, c := range []struct {
		last uint64
		l    []api.Attempt
		want api.Errno
	}{
		{1<<62 + 1, nil, api.ErrArg}, {math.MaxUint64, many[:1], api.ErrArg}, {1<<62 + 1, many, api.ErrArg},
		{0, many, api.ErrFull}, {1 << 62, many, api.ErrFull},
	} {
		fates, err := valid.Schedule(c.last, c.l)
		wants(t, "Schedule", err, c.want)
		wants(t, "how many fates", len(fates), 0)
	}
	fates, err := valid.Schedule(0, many[:4096])
	wants(t, "Schedule of MaxLog attempts", err, api.OK)
	wants(t, "how many fates", len(fates), 4096)
	for i, f := range fates {
		wants(t, "a fate", f, stamped(uint64(i+1)))
	}
}

// R4: a schedule begins without commits, whatever was scheduled ahead.
func TestSchedulesAreApart(t *testing.T) {
	l := []api.Attempt{attempt(0, serial, "a", "a")}
	for range 3 {
		wantsFates(t, "one", 0, l, stamped(1))
	}
	wantsFates(t, "one, behind stamps that are kept nowhere", 5, l, stamped(6))
}
