package sets_test

import (
	"slices"
	"testing"

	"vellum/api"
	"vellum/sets"
)

// roomy is a foot whose lists are neither in order nor each once, with room behind their ends in which something lies.
func roomy() api.Foot {
	return api.Foot{
		Points: append(keys("d", "b", "d", "a"), point(7, 7, "behind"), point(0, -1, "b"))[:4],
		Spans:  append(ranges(upTo("x", "z"), upTo("p", "q"), upTo("q", "r"), upTo("d", "d")), span(7, 7, onwards("behind")))[:4],
		Writes: append(keys("k", "j", "k"), point(7, 7, "behind"))[:3],
	}
}

// whole is a foot with the room behind its lists.
func whole(f api.Foot) api.Foot {
	return api.Foot{Points: f.Points[:cap(f.Points)], Spans: f.Spans[:cap(f.Spans)], Writes: f.Writes[:cap(f.Writes)]}
}

// copied is a foot in memory of its own.
func copied(f api.Foot) api.Foot {
	return api.Foot{Points: slices.Clone(f.Points), Spans: slices.Clone(f.Spans), Writes: slices.Clone(f.Writes)}
}

// soil writes into all of a list's memory, with the room behind its end.
func soil[T any](l []T, with T) {
	l = l[:cap(l)]
	for i := range l {
		l[i] = with
	}
}

// answers is what each call that tells a foot tells of one.
func answers(t *testing.T, f api.Foot) []api.Foot {
	t.Helper()
	return []api.Foot{normed(t, f), merged(t, f, f), merged(t, f, api.Foot{}), merged(t, api.Foot{}, f), normed(t, normed(t, f)), sets.Without(f, 3), sets.Without(f, 0)}
}

// R3: what is handed in is not changed, nor what lies behind the ends of its lists.
func TestArgumentsStay(t *testing.T) {
	f := roomy()
	was := copied(whole(f))
	answers(t, f)
	sets.Check(f)
	sets.Reads(f, point(0, -1, "b"))
	sets.Clash(f, f)
	sets.Both(f, f)
	sets.Without(f, 7)
	wantsFoot(t, "the foot", whole(f), was)
	bad := roomy()
	bad.Writes[0].Index = -2
	was = copied(whole(bad))
	sets.Norm(bad)
	sets.Merge(bad, f)
	wantsFoot(t, "the foot that is refused", whole(bad), was)
}

// R3: whoever soils an answer's list, with its room, changes neither the argument nor the answer's other lists; and the other way round.
func TestAnswersShareNothing(t *testing.T) {
	for _, f := range []api.Foot{roomy(), normed(t, roomy())} {
		for i, want := range answers(t, f) {
			was := copied(whole(f))
			got := answers(t, f)[i]
			soil(got.Points, point(9, 9, "soiled"))
			wantsFoot(t, "the other lists", api.Foot{Spans: got.Spans, Writes: got.Writes}, api.Foot{Spans: want.Spans, Writes: want.Writes})
			soil(got.Spans, span(9, 9, onwards("soiled")))
			wants(t, "the writes", slices.Equal(got.Writes, want.Writes), true)
			soil(got.Writes, point(9, 9, "soiled"))
			wantsFoot(t, "the foot", whole(f), was)
			wantsFoot(t, "the answer again", answers(t, f)[i], want)
		}
		kept := answers(t, f)
		was := answers(t, copied(f))
		soil(f.Points, point(9, 9, "soiled"))
		soil(f.Spans, span(9, 9, onwards("soiled")))
		soil(f.Writes, point(9, 9, "soiled"))
		for i := range kept {
			wantsFoot(t, "the answer", kept[i], was[i])
		}
	}
}

// R3: lists of one foot that share memory, Points and Writes, are told in memory apart.
func TestListsThatShareMemory(t *testing.T) {
	l := keys("c", "a", "b")
	f := api.Foot{Points: l, Writes: l}
	for _, got := range answers(t, f)[:6] {
		soil(got.Points, point(9, 9, "soiled"))
		for _, p := range got.Writes {
			wants(t, "the table of a write", p.Table, 0)
		}
	}
	wants(t, "the list", slices.Equal(l, keys("c", "a", "b")), true)
}
