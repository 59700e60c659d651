package sets_test

import (
	"slices"
	"testing"

	"vellum/api"
	"vellum/sets"
)

// Se1: feet and their normal ones, the chapter's example first.
func TestNormWrittenOut(t *testing.T) {
	for _, c := range []struct{ f, want api.Foot }{
		{
			api.Foot{Points: keys("b", "a", "b"), Spans: ranges(upTo("a", "aa"))},
			api.Foot{Points: keys("b"), Spans: ranges(upTo("a", "aa"))},
		},
		{api.Foot{}, api.Foot{}},
		{api.Foot{Points: []api.Point{}, Spans: []api.Span{}, Writes: []api.Point{}}, api.Foot{}},
		{
			// Writes stay, though they are read too.
			api.Foot{Points: keys("b"), Spans: ranges(onwards("")), Writes: keys("c", "b", "c", "a")},
			api.Foot{Spans: ranges(onwards("")), Writes: keys("a", "b", "c")},
		},
		{
			// Points stand by table, then index, then the key's bytes.
			api.Foot{Points: []api.Point{point(2, -1, "a"), point(1, 3, "a"), point(1, -1, "b"), point(1, 0, "\xff"), point(1, -1, "B"), point(0, 9, "z"), point(1, 0, "a\x00"), point(1, 0, "a")}},
			api.Foot{Points: []api.Point{point(0, 9, "z"), point(1, -1, "B"), point(1, -1, "b"), point(1, 0, "a"), point(1, 0, "a\x00"), point(1, 0, "\xff"), point(1, 3, "a"), point(2, -1, "a")}},
		},
		{
			// So do writes.
			api.Foot{Writes: []api.Point{point(10, -1, "a"), point(9, 0, "a"), point(9, -1, ""), point(9, 10, "a"), point(9, 9, "b")}},
			api.Foot{Writes: []api.Point{point(9, -1, ""), point(9, 0, "a"), point(9, 9, "b"), point(9, 10, "a"), point(10, -1, "a")}},
		},
		{
			// Spans that touch are one, of the same table and index alone.
			api.Foot{Spans: []api.Span{span(1, 0, upTo("b", "c")), span(0, 0, upTo("c", "d")), span(1, 0, upTo("a", "b")), span(1, -1, upTo("c", "d"))}},
			api.Foot{Spans: []api.Span{span(0, 0, upTo("c", "d")), span(1, -1, upTo("c", "d")), span(1, 0, upTo("a", "c"))}},
		},
		{
			// Spans without keys read nothing; an open one has no Hi.
			api.Foot{Points: keys("b"), Spans: ranges(upTo("b", "b"), upTo("c", "a"), api.Range{}, api.Range{Lo: "d", Hi: "a", Open: true})},
			api.Foot{Points: keys("b"), Spans: ranges(onwards("d"))},
		},
		{
			// A span has its beginning, and not its end; one key's span stays a span.
			api.Foot{Points: keys("a", "c", "b", "bb", "x", "x\x00", "w"), Spans: ranges(upTo("b", "c"), upTo("x", "x\x00"))},
			api.Foot{Points: keys("a", "c", "w", "x\x00"), Spans: ranges(upTo("b", "c"), upTo("x", "x\x00"))},
		},
		{
			// A point is in no span of another table or index.
			api.Foot{Points: []api.Point{point(0, 0, "b"), point(1, -1, "b"), point(0, -1, "b"), point(1, 0, "b")}, Spans: ranges(onwards(""))},
			api.Foot{Points: []api.Point{point(0, 0, "b"), point(1, -1, "b"), point(1, 0, "b")}, Spans: ranges(onwards(""))},
		},
		{
			// Points beside a span, and beside one another, stay points.
			api.Foot{Points: keys("a\x00", "a", "b"), Spans: ranges(upTo("a\x00\x00", "b"))},
			api.Foot{Points: keys("a", "a\x00", "b"), Spans: ranges(upTo("a\x00\x00", "b"))},
		},
	} {
		wantsFoot(t, "Norm of "+shown(c.f), normed(t, c.f), c.want)
	}
}

// Se1: random feet: the normal foot is normal, reads the same points and has the same writes.
func TestNorm(t *testing.T) {
	w := newWorld(1)
	for range 20000 {
		f := w.foot()
		n := normed(t, f)
		wantsFoot(t, "Norm of "+shown(f), n, plainNorm(f))
		if !isNormal(n) {
			t.Fatalf("Norm of %s = %s: not normal", shown(f), shown(n))
		}
		for _, p := range w.points() {
			if plainReads(f, p) != plainReads(n, p) {
				t.Fatalf("Norm of %s = %s: not the same of %v", shown(f), shown(n), p)
			}
			if slices.Contains(f.Writes, p) != slices.Contains(n.Writes, p) {
				t.Fatalf("Norm of %s = %s: not the same writes of %v", shown(f), shown(n), p)
			}
		}
	}
}

// Se2: what is written out: points of one in spans of the other one, spans that join, writes of both.
func TestMergeWrittenOut(t *testing.T) {
	a := api.Foot{Points: keys("q", "c", "z"), Spans: ranges(upTo("a", "b")), Writes: keys("w", "c")}
	b := api.Foot{Points: keys("a", "z"), Spans: ranges(upTo("p", "r"), upTo("b", "bb")), Writes: keys("c", "a")}
	want := api.Foot{Points: keys("c", "z"), Spans: ranges(upTo("a", "bb"), upTo("p", "r")), Writes: keys("a", "c", "w")}
	wantsFoot(t, "Merge", merged(t, a, b), want)
	wantsFoot(t, "Merge the other way round", merged(t, b, a), want)
	wantsFoot(t, "Merge of nothing", merged(t, api.Foot{}, api.Foot{}), api.Foot{})
}

// Se2: random feet: the merged one is normal, reads what one of both reads, and has the writes of both.
func TestMerge(t *testing.T) {
	w := newWorld(2)
	for range 10000 {
		a, b := w.foot(), w.foot()
		m := merged(t, a, b)
		wantsFoot(t, "Merge of "+shown(a)+" and "+shown(b), m, plainMerge(a, b))
		if !isNormal(m) {
			t.Fatalf("Merge of %s and %s = %s: not normal", shown(a), shown(b), shown(m))
		}
		for _, p := range w.points() {
			if plainReads(m, p) != (plainReads(a, p) || plainReads(b, p)) {
				t.Fatalf("Merge of %s and %s = %s: not the same of %v", shown(a), shown(b), shown(m), p)
			}
			if slices.Contains(m.Writes, p) != (slices.Contains(a.Writes, p) || slices.Contains(b.Writes, p)) {
				t.Fatalf("Merge of %s and %s = %s: not the same writes of %v", shown(a), shown(b), shown(m), p)
			}
		}
	}
}

// Se4: Norm of Norm is Norm; the order in which a foot's parts stand, and how often, does not matter.
func TestNormOfNorm(t *testing.T) {
	w := newWorld(3)
	for range 10000 {
		f := w.foot()
		n := normed(t, f)
		wantsFoot(t, "Norm of Norm of "+shown(f), normed(t, n), n)
		wantsFoot(t, "Norm of a shuffled "+shown(f), normed(t, w.shuffled(f)), n)
		wantsFoot(t, "Merge of nothing and "+shown(f), merged(t, api.Foot{}, f), n)
		wantsFoot(t, "Merge with itself of "+shown(f), merged(t, f, f), n)
	}
}

// Se4: Merge is the same both ways round, in any grouping, and of normal feet.
func TestMergeInAnyGrouping(t *testing.T) {
	w := newWorld(4)
	for range 10000 {
		a, b, c := w.foot(), w.foot(), w.foot()
		ab, bc := merged(t, a, b), merged(t, b, c)
		wantsFoot(t, "Merge the other way round", merged(t, b, a), ab)
		wantsFoot(t, "Merge of normal feet", merged(t, normed(t, a), normed(t, b)), ab)
		all := merged(t, ab, c)
		wantsFoot(t, "Merge in another grouping", merged(t, a, bc), all)
		wantsFoot(t, "Merge in another order", merged(t, merged(t, c, a), b), all)
	}
}

// Se4: a foot's normal one is of no greater size, so that it may be wherever the foot may.
func TestNormalFeetMayBe(t *testing.T) {
	w := newWorld(5)
	for range 5000 {
		f := w.foot()
		n := normed(t, f)
		if len(n.Points) > len(f.Points) || len(n.Spans) > len(f.Spans) || len(n.Writes) > len(f.Writes) {
			t.Fatalf("Norm of %s = %s", shown(f), shown(n))
		}
		wants(t, "Check of a normal foot", sets.Check(n), api.OK)
	}
}
