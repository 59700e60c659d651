package sets_test

import (
	"fmt"
	"math"
	"slices"
	"strings"
	"testing"

	"vellum/api"
	"vellum/sets"
)

// found is what Clash and Both tell, as one value.
type found struct {
	point api.Point
	some  bool
}

func clash(reader, writer api.Foot) found {
	p, some := sets.Clash(reader, writer)
	return found{p, some}
}

func both(a, b api.Foot) found {
	p, some := sets.Both(a, b)
	return found{p, some}
}

func writes(l ...string) api.Foot { return api.Foot{Writes: keys(l...)} }

// Se3: what a foot reads, written out.
func TestReadsWrittenOut(t *testing.T) {
	long := strings.Repeat("k", 3000)
	f := api.Foot{
		Points: []api.Point{point(1, 2, "p"), point(0, -1, ""), point(0, -1, long)},
		Spans:  []api.Span{span(0, -1, upTo("b", "d")), span(0, -1, upTo("c", "e")), span(2, 0, api.Range{Lo: "m", Hi: "a", Open: true}), span(3, 0, upTo("z", "a")), span(3, 0, upTo("q", "q"))},
		Writes: []api.Point{point(0, -1, "w"), point(5, 5, "w")},
	}
	for _, p := range []api.Point{point(1, 2, "p"), point(0, -1, ""), point(0, -1, long), point(0, -1, "b"), point(0, -1, "b\x00"), point(0, -1, "d"), point(0, -1, "d\xff"), point(2, 0, "m"), point(2, 0, "z"), point(2, 0, "\xff\xff\xff")} {
		wants(t, fmt.Sprintf("Reads of %v", p), sets.Reads(f, p), true)
	}
	for _, p := range []api.Point{{}, point(1, 2, "p\x00"), point(1, 2, ""), point(1, -1, "p"), point(2, 2, "p"), point(0, 0, ""), point(0, -1, long+"k"), point(0, -1, "a\xff"), point(0, -1, "e"), point(0, -1, "w"), point(5, 5, "w"), point(0, 0, "c"), point(1, -1, "c"), point(2, 0, "l\xff"), point(2, 1, "z"), point(3, 0, "z"), point(3, 0, "a"), point(3, 0, "q")} {
		wants(t, fmt.Sprintf("Reads of %v", p), sets.Reads(f, p), false)
	}
	wants(t, "Reads of nothing", sets.Reads(api.Foot{}, api.Point{}), false)
	wants(t, "Reads of the zero point", sets.Reads(api.Foot{Points: []api.Point{{}}}, api.Point{}), true)
	wants(t, "Reads of a span without keys", sets.Reads(api.Foot{Spans: []api.Span{{}}}, api.Point{}), false)
}

// Se3: random feet and all points, normal or not.
func TestReads(t *testing.T) {
	w := newWorld(6)
	for range 3000 {
		f := w.foot()
		n := normed(t, f)
		for _, p := range w.points() {
			want := plainReads(f, p)
			if sets.Reads(f, p) != want || sets.Reads(n, p) != want {
				t.Fatalf("Reads of %s, %v: %v, want %v", shown(f), p, !want, want)
			}
		}
	}
}

// Se3: Clash written out, the chapter's examples first.
func TestClashWrittenOut(t *testing.T) {
	reader := api.Foot{Spans: ranges(upTo("c", "f"))}
	none := found{}
	wants(t, "Clash of d, c, g", clash(reader, writes("d", "c", "g")), found{point(0, -1, "c"), true})
	wants(t, "Clash of g", clash(reader, writes("g")), none)
	wants(t, "Clash of the end", clash(reader, writes("f", "b\xff")), none)
	wants(t, "Clash of no writes", clash(reader, api.Foot{Points: keys("c"), Spans: ranges(onwards(""))}), none)
	wants(t, "Clash of no reads", clash(writes("c"), writes("c")), none)
	wants(t, "Clash of nothing", clash(api.Foot{}, api.Foot{}), none)
	wants(t, "Clash of another index", clash(reader, api.Foot{Writes: []api.Point{point(0, 0, "c"), point(1, -1, "d")}}), none)
	wants(t, "Clash of the zero point", clash(api.Foot{Points: []api.Point{{}}}, api.Foot{Writes: []api.Point{{}}}), found{api.Point{}, true})
	reader = api.Foot{Points: keys("x", "b", "k"), Spans: ranges(onwards("y"), upTo("m", "n"), upTo("j", "a"))}
	for _, c := range []struct {
		want string
		l    []string
	}{
		{"b", []string{"z", "x", "b", "m"}},
		{"k", []string{"mm", "k", "j", "a"}},
		{"m", []string{"z", "mm", "m", "x"}},
		{"x", []string{"yy", "x", "x", "l"}},
		{"yy", []string{"z", "yy", "w"}},
	} {
		wants(t, fmt.Sprint("Clash of ", c.l), clash(reader, writes(c.l...)), found{point(0, -1, c.want), true})
	}
}

// Se3: the first point is by table, then index, then key, whichever way it is read.
func TestClashInOrder(t *testing.T) {
	order := []api.Point{point(0, 5, "z"), point(1, -1, "a"), point(1, -1, "b"), point(1, 0, ""), point(1, 10, "a"), point(2, -1, ""), point(10, -1, "\x00")}
	for i, p := range order {
		for _, reader := range []api.Foot{
			{Points: order[i:]},
			{Spans: asSpans(order[i:])},
			{Points: order[i : i+1], Spans: asSpans(order[i+1:])},
			{Points: order[i+1:], Spans: asSpans(order[i : i+1])},
		} {
			back := slices.Clone(order)
			slices.Reverse(back)
			for _, l := range [][]api.Point{order, back, slices.Concat(back, order)} {
				wants(t, "Clash of "+shown(reader), clash(reader, api.Foot{Writes: l}), found{p, true})
			}
		}
	}
}

// asSpans is a span of one key for each point, the last one first.
func asSpans(l []api.Point) []api.Span {
	var spans []api.Span
	for _, p := range slices.Backward(l) {
		spans = append(spans, span(p.Table, p.Index, upTo(p.Key, p.Key+"\x00")))
	}
	return spans
}

// Se3: Both is of the tables' keys alone, and of writes alone.
func TestBothWrittenOut(t *testing.T) {
	none := found{}
	wants(t, "Both of y", both(writes("x", "y"), writes("y")), found{point(0, -1, "y"), true})
	wants(t, "Both, the first one", both(writes("z", "x", "y", "x"), writes("y", "z", "y")), found{point(0, -1, "y"), true})
	wants(t, "Both of unlike keys", both(writes("x"), writes("y")), none)
	wants(t, "Both of nothing", both(api.Foot{}, api.Foot{}), none)
	wants(t, "Both with nothing", both(writes("x"), api.Foot{}), none)
	entries := api.Foot{Writes: []api.Point{point(0, 0, "a"), point(0, 3, "b"), {}}}
	wants(t, "Both of indexes", both(entries, entries), none)
	reads := api.Foot{Points: keys("x"), Spans: ranges(onwards(""))}
	wants(t, "Both of reads", both(reads, reads), none)
	wants(t, "Both of reads and writes", both(reads, writes("x")), none)
	a := api.Foot{Writes: []api.Point{point(2, -1, "a"), point(0, 0, "a"), point(1, -1, "b"), point(1, 0, "")}}
	b := api.Foot{Writes: []api.Point{point(0, 0, "a"), point(1, 0, ""), point(1, -1, "b"), point(2, -1, "a")}}
	wants(t, "Both of tables", both(a, b), found{point(1, -1, "b"), true})
	wants(t, "Both of unlike tables", both(api.Foot{Writes: []api.Point{point(1, -1, "a")}}, writes("a")), none)
	wants(t, "Both of the empty key", both(writes(""), writes("")), found{point(0, -1, ""), true})
}

// Se3, Se4: random feet: Clash and Both tell what the words say; the same of normal feet; Both also the other way round.
func TestClashAndBoth(t *testing.T) {
	w := newWorld(7)
	some := 0
	for range 20000 {
		a, b := w.foot(), w.foot()
		p, is := plainClash(a, b)
		q, also := plainBoth(a, b)
		if is && also {
			some++
		}
		na, nb := normed(t, a), normed(t, b)
		for _, feet := range [][2]api.Foot{{a, b}, {na, b}, {a, nb}, {na, nb}, {w.shuffled(a), w.shuffled(b)}} {
			what := shown(feet[0]) + " and " + shown(feet[1])
			wants(t, "Clash of "+what, clash(feet[0], feet[1]), found{p, is})
			wants(t, "Both of "+what, both(feet[0], feet[1]), found{q, also})
			wants(t, "Both, the other way round, of "+what, both(feet[1], feet[0]), found{q, also})
		}
	}
	if some < 1000 {
		t.Fatalf("only %d feet that clash both ways", some)
	}
}

// Se3: feet that may not be, by their numbers or their size, are asked like others.
func TestFeetThatMayNotBe(t *testing.T) {
	w := newWorld(8)
	w.tables, w.indexes = []int{-1, math.MinInt, 0}, []int{-1, -2, math.MinInt}
	for range 3000 {
		a, b := w.foot(), w.foot()
		what := shown(a) + " and " + shown(b)
		p, is := plainClash(a, b)
		wants(t, "Clash of "+what, clash(a, b), found{p, is})
		p, is = plainBoth(a, b)
		wants(t, "Both of "+what, both(a, b), found{p, is})
		for _, p := range w.some(5) {
			wants(t, fmt.Sprintf("Reads of %s, %v", what, p), sets.Reads(a, p), plainReads(a, p))
		}
		wantsFoot(t, "Without of "+what, sets.Without(a, -1), plainWithout(a, -1))
	}
}

// Se3: without a table: what is left stands as it stood, in its order, as often, with all that its ranges say.
func TestWithout(t *testing.T) {
	f := api.Foot{
		Points: []api.Point{point(2, 0, "b"), point(1, -1, "x"), point(2, 0, "a"), point(0, 1, "q"), point(2, 0, "b")},
		Spans:  []api.Span{span(2, 1, upTo("m", "z")), span(1, 1, onwards("")), span(2, 1, upTo("a", "n")), span(2, 1, api.Range{Lo: "b", Hi: "a", Open: true}), span(2, 1, upTo("z", "a"))},
		Writes: []api.Point{point(1, -1, "x"), point(1, -1, "x"), point(0, -1, "z"), point(0, -1, "y")},
	}
	wantsFoot(t, "Without 1", sets.Without(f, 1), api.Foot{
		Points: []api.Point{f.Points[0], f.Points[2], f.Points[3], f.Points[4]},
		Spans:  []api.Span{f.Spans[0], f.Spans[2], f.Spans[3], f.Spans[4]},
		Writes: []api.Point{f.Writes[2], f.Writes[3]},
	})
	wantsFoot(t, "Without 2", sets.Without(f, 2), api.Foot{Points: []api.Point{f.Points[1], f.Points[3]}, Spans: f.Spans[1:2], Writes: f.Writes})
	wantsFoot(t, "Without 0", sets.Without(f, 0), api.Foot{Points: []api.Point{f.Points[0], f.Points[1], f.Points[2], f.Points[4]}, Spans: f.Spans, Writes: f.Writes[:2]})
	for _, table := range []int{3, -1, math.MinInt, math.MaxInt} {
		wantsFoot(t, fmt.Sprint("Without ", table), sets.Without(f, table), f)
	}
	wantsFoot(t, "Without of all", sets.Without(sets.Without(sets.Without(f, 0), 1), 2), api.Foot{})
	wantsFoot(t, "Without of nothing", sets.Without(api.Foot{}, 0), api.Foot{})
	w := newWorld(9)
	for range 3000 {
		f := w.foot()
		for _, table := range w.tables {
			wantsFoot(t, fmt.Sprintf("Without %d of %s", table, shown(f)), sets.Without(f, table), plainWithout(f, table))
		}
	}
}
