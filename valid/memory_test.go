package valid_test

import (
	"slices"
	"testing"

	"vellum/api"
	"vellum/valid"
)

// roomy is a foot whose lists are neither in order nor each once, with room behind their ends in which something lies.
func roomy() api.Foot {
	return api.Foot{
		Points: append(keys("dbda"), point(7, 7, "behind"), row("b"))[:4],
		Spans:  append(over(upTo("x", "z"), upTo("p", "q"), upTo("q", "r"), upTo("d", "d")).Spans, span(7, 7, onwards("behind")))[:4],
		Writes: append(keys("kjk"), row("y"), point(7, 7, "behind"))[:3],
	}
}

// whole is a foot with the room behind its lists.
func whole(f api.Foot) api.Foot {
	return api.Foot{Points: f.Points[:cap(f.Points)], Spans: f.Spans[:cap(f.Spans)], Writes: f.Writes[:cap(f.Writes)]}
}

// copied is a foot in memory of its own.
func copied(f api.Foot) api.Foot {
	return api.Foot{Points: slices.Clone(f.Points), Spans: slices.Clone(f.Spans), Writes: slices.Clone(f.Writes)}
}

func same(a, b api.Foot) bool {
	return slices.Equal(a.Points, b.Points) && slices.Equal(a.Spans, b.Spans) && slices.Equal(a.Writes, b.Writes)
}

// soil writes into all of a list's memory, with the room behind its end.
func soil[T any](l []T, with T) {
	l = l[:cap(l)]
	for i := range l {
		l[i] = with
	}
}

// R3: what is handed in is not changed, nor what lies behind the ends of its lists.
func TestArgumentsStay(t *testing.T) {
	f := roomy()
	was := copied(whole(f))
	l := valid.New()
	noted(t, l, 1, f)
	noted(t, l, 2, foot("", "dkp"))
	l.Note(2, f)
	l.Read(f, 0)
	l.Read(f, 1)
	l.Wrote(f, 0)
	l.Try(api.Attempt{Foot: f, Level: serial})
	attempts := append(make([]api.Attempt, 0, 4), api.Attempt{Foot: f, Level: serial}, api.Attempt{Foot: f, Level: snapshot}, api.Attempt{From: 9, Foot: f, Level: committed})
	valid.Schedule(0, attempts[:2])
	wants(t, "the foot stays", same(whole(f), was), true)
	wants(t, "the attempts' levels", attempts[0].Level*100+attempts[1].Level*10+attempts[2].Level, serial*100+snapshot*10+committed)
	wants(t, "the room behind the attempts", attempts[:4][3].Level, 0)
	wantsRead(t, "what lies behind the end", l, foot("y", ""), 0, api.Clash{})
}

// R3: a log keeps nothing of the foot that was handed in.
func TestLogKeepsNothingOfArguments(t *testing.T) {
	f := roomy()
	l := valid.New()
	noted(t, l, 1, f)
	soil(f.Points, row("s"))
	soil(f.Spans, span(0, -1, onwards("")))
	soil(f.Writes, row("s"))
	wantsRead(t, "what the list has now", l, foot("s", ""), 0, api.Clash{})
	wantsRead(t, "what it had", l, foot("kj", ""), 0, clash(1, row("j")))
	wantsRead(t, "a range", l, over(onwards("")), 0, clash(1, row("j")))
	wantsWrote(t, "what it had", l, foot("", "k"), 0, clash(1, row("k")))
	// One list for all that is noted, as a caller may have it.
	list := keys("a")
	for stamp := range uint64(5) {
		list[0] = row(string(rune('a' + stamp)))
		noted(t, l, stamp+2, api.Foot{Writes: list})
	}
	wantsRead(t, "a", l, foot("a", ""), 0, clash(2, row("a")))
	wantsRead(t, "e", l, foot("e", ""), 0, clash(6, row("e")))
	wants(t, "Trim", l.Trim(3), 3)
	wantsRead(t, "all", l, over(onwards("")), 0, clash(4, row("c")))
}

// R3: a schedule's fates and a log's stamps are new memory, with their room.
func TestAnswersShareNothing(t *testing.T) {
	l := logOf(t, foot("", "a"), foot("", "b"), foot("", "c"))
	soil(l.Stamps(), 99)
	wantsStamps(t, "behind soiling", l, 10, 20, 30)
	stamps := l.Stamps()
	l.Trim(10)
	noted(t, l, 40, foot("", "d"))
	wants(t, "the answer stays", slices.Equal(stamps, []uint64{10, 20, 30}), true)
	soil(l.Stamps(), 99)
	wantsStamps(t, "behind soiling", l, 20, 30, 40)
	wantsRead(t, "a range", l, over(onwards("")), 20, clash(30, row("c")))
	attempts := []api.Attempt{attempt(0, serial, "a", "b"), attempt(0, serial, "b", "a")}
	fates, _ := valid.Schedule(0, attempts)
	soil(fates, stamped(99))
	wantsFates(t, "the same", 0, attempts, stamped(1), lost(api.ErrSerial, 1, row("b")))
}
