package valid_test

import (
	"fmt"
	"math"
	"testing"

	"vellum/api"
	"vellum/valid"
)

// Vd2: of the commits that wrote a point that is read, the first one; of its points, the first one as they stand.
func TestReadPoints(t *testing.T) {
	l := logOf(t, foot("", "ca"), foot("", "dbd"), foot("", "ab"), foot("", ""))
	for _, c := range []struct {
		reads string
		from  uint64
		want  api.Clash
	}{
		{"", 0, api.Clash{}},
		{"x", 0, api.Clash{}},
		{"a", 0, clash(10, row("a"))},
		{"ac", 0, clash(10, row("a"))},
		{"ca", 0, clash(10, row("a"))},
		{"c", 0, clash(10, row("c"))},
		{"b", 0, clash(20, row("b"))},
		{"db", 0, clash(20, row("b"))},
		{"dxd", 0, clash(20, row("d"))},
		{"bc", 0, clash(10, row("c"))},
		{"a", 9, clash(10, row("a"))},
		{"a", 10, clash(30, row("a"))},
		{"ca", 10, clash(30, row("a"))},
		{"ba", 10, clash(20, row("b"))},
		{"ba", 20, clash(30, row("a"))},
		{"ba", 29, clash(30, row("a"))},
		{"ba", 30, api.Clash{}},
		{"c", 10, api.Clash{}},
		{"abcd", 40, api.Clash{}},
		{"abcd", 1 << 62, api.Clash{}},
		{"abcd", math.MaxUint64, api.Clash{}},
	} {
		wantsRead(t, fmt.Sprintf("%q from %d", c.reads, c.from), l, foot(c.reads, ""), c.from, c.want)
		wantsRead(t, fmt.Sprintf("%q from %d, and writes", c.reads, c.from), l, foot(c.reads, "abcd"), c.from, c.want)
	}
}

// Vd2: of ranges likewise: Lo is in, and Hi is not.
func TestReadSpans(t *testing.T) {
	l := logOf(t, foot("", "c"), foot("", "fdg"), foot("", "a"))
	for _, c := range []struct {
		what string
		f    api.Foot
		from uint64
		want api.Clash
	}{
		{"a range of it", over(upTo("b", "d")), 0, clash(10, row("c"))},
		{"a range from it on", over(upTo("c", "d")), 0, clash(10, row("c"))},
		{"a range of it alone", over(upTo("c", "c\x00")), 0, clash(10, row("c"))},
		{"a range up to it", over(upTo("b", "c")), 0, api.Clash{}},
		{"a range behind it", over(upTo("c\x00", "d")), 0, api.Clash{}},
		{"a range without keys", over(upTo("c", "c"), upTo("g", "a")), 0, api.Clash{}},
		{"the first one of it", over(upTo("d", "h")), 0, clash(20, row("d"))},
		{"an open one", over(onwards("d\x00")), 0, clash(20, row("f"))},
		{"an open one with an Hi", over(api.Range{Lo: "e", Hi: "a", Open: true}), 0, clash(20, row("f"))},
		{"an open one behind all", over(onwards("g\x00")), 0, api.Clash{}},
		{"all", over(onwards("")), 0, clash(10, row("c"))},
		{"all, from 10", over(onwards("")), 10, clash(20, row("d"))},
		{"all, from 20", over(onwards("")), 20, clash(30, row("a"))},
		{"all, from 30", over(onwards("")), 30, api.Clash{}},
		{"two ranges, the later one first", over(upTo("f", "z"), upTo("a", "b")), 0, clash(20, row("f"))},
		{"two ranges, the later one first, from 20", over(upTo("f", "z"), upTo("a", "b")), 20, clash(30, row("a"))},
		{"ranges that overlap", over(upTo("b", "z"), upTo("b", "c"), upTo("d", "e")), 10, clash(20, row("d"))},
		{"ranges behind one another", over(upTo("a", "b"), upTo("b", "c"), upTo("e", "f")), 0, clash(30, row("a"))},
	} {
		wantsRead(t, c.what, l, c.f, c.from, c.want)
	}
}

// Vd2: points and ranges of one foot: the first commit of those that either meets, and its first point of both.
func TestReadPointsAndSpans(t *testing.T) {
	l := logOf(t, foot("", "p"), foot("", "sq"), foot("", "as"))
	for _, c := range []struct {
		points string
		span   api.Range
		from   uint64
		want   api.Clash
	}{
		{"p", upTo("q", "t"), 0, clash(10, row("p"))},
		{"s", upTo("p", "q"), 0, clash(10, row("p"))},
		{"s", upTo("q", "r"), 0, clash(20, row("q"))},
		{"q", upTo("s", "t"), 0, clash(20, row("q"))},
		{"s", upTo("a", "b"), 10, clash(20, row("s"))},
		{"a", upTo("r", "t"), 10, clash(20, row("s"))},
		{"s", upTo("a", "b"), 20, clash(30, row("a"))},
		{"a", upTo("s", "t"), 20, clash(30, row("a"))},
		{"x", upTo("s", "t"), 20, clash(30, row("s"))},
		{"s", upTo("x", "y"), 20, clash(30, row("s"))},
	} {
		f := over(c.span)
		f.Points = keys(c.points)
		wantsRead(t, fmt.Sprintf("%q and %+v from %d", c.points, c.span, c.from), l, f, c.from, c.want)
	}
}

// Vd2: points and ranges of other tables and indexes are others.
func TestPlacesAreApart(t *testing.T) {
	l := valid.New()
	var places [][2]int
	for _, table := range []int{0, 1, 63, math.MaxInt} {
		for _, index := range []int{-1, 0, 15, math.MaxInt} {
			places = append(places, [2]int{table, index})
			noted(t, l, uint64(len(places)), api.Foot{Writes: []api.Point{point(table, index, "k")}})
		}
	}
	for i, at := range places {
		p, stamp := point(at[0], at[1], "k"), uint64(i+1)
		wantsRead(t, "a point", l, api.Foot{Points: []api.Point{p}}, 0, clash(stamp, p))
		wantsRead(t, "a range", l, api.Foot{Spans: []api.Span{span(at[0], at[1], onwards(""))}}, 0, clash(stamp, p))
		wantsRead(t, "a range from it on", l, api.Foot{Spans: []api.Span{span(at[0], at[1], upTo("k", "l"))}}, 0, clash(stamp, p))
		wantsRead(t, "a range that is seen", l, api.Foot{Spans: []api.Span{span(at[0], at[1], onwards(""))}}, stamp, api.Clash{})
		want := api.Clash{}
		if at[1] == -1 {
			want = clash(stamp, p)
		}
		wantsWrote(t, "a point", l, api.Foot{Writes: []api.Point{p}}, 0, want)
	}
	f := api.Foot{Spans: []api.Span{span(63, -1, onwards("l")), span(1, 15, upTo("", "k")), span(0, 0, onwards("a")), span(1, 0, onwards("a"))}}
	wantsRead(t, "ranges of many", l, f, 0, clash(2, point(0, 0, "k")))
	wantsRead(t, "ranges of many, from 2", l, f, 2, clash(6, point(1, 0, "k")))
	wantsRead(t, "ranges of many, from 6", l, f, 6, api.Clash{})
}

// Vd2: the first one of a commit's points is by Table, then Index, then Key.
func TestFirstPoint(t *testing.T) {
	all := []api.Point{point(1, 0, "a"), point(1, -1, "b"), point(0, 1, "d"), point(0, 0, "z"), point(0, -1, "m"), point(0, -1, "c"), point(2, -1, "a")}
	l := logOf(t, api.Foot{Writes: all})
	in := []api.Point{point(0, -1, "c"), point(0, -1, "m"), point(0, 0, "z"), point(0, 1, "d"), point(1, -1, "b"), point(1, 0, "a"), point(2, -1, "a")}
	for i, p := range in {
		wantsRead(t, "points", l, api.Foot{Points: in[i:]}, 0, clash(10, p))
		var spans []api.Span
		for j := len(in) - 1; j >= i; j-- {
			spans = append(spans, span(in[j].Table, in[j].Index, upTo(in[j].Key, in[j].Key+"\x00")))
		}
		wantsRead(t, "spans", l, api.Foot{Spans: spans}, 0, clash(10, p))
	}
	rows := []api.Point{point(0, -1, "c"), point(0, -1, "m"), point(1, -1, "b"), point(2, -1, "a")}
	for i, p := range rows {
		wantsWrote(t, "rows", l, api.Foot{Writes: append([]api.Point{point(0, 0, "z"), point(2, -1, "a")}, rows[i:]...)}, 0, clash(10, p))
	}
}

// Vd2: the first one that wrote a row that is written; points of indexes are none, and what is read does not count.
func TestWrote(t *testing.T) {
	entry := func(key string) api.Point { return point(0, 0, key) }
	l := logOf(t, api.Foot{Writes: []api.Point{entry("e"), row("c"), row("a")}}, foot("", "db"), api.Foot{Writes: []api.Point{row("a"), entry("a")}})
	for _, c := range []struct {
		what string
		f    api.Foot
		from uint64
		want api.Clash
	}{
		{"nothing", api.Foot{}, 0, api.Clash{}},
		{"another row", foot("", "x"), 0, api.Clash{}},
		{"a row", foot("", "c"), 0, clash(10, row("c"))},
		{"two rows", foot("", "ca"), 0, clash(10, row("a"))},
		{"a row that is written twice", foot("", "bxb"), 0, clash(20, row("b"))},
		{"rows of two commits", foot("", "dc"), 0, clash(10, row("c"))},
		{"rows of two commits, one of which is seen", foot("", "acd"), 10, clash(20, row("d"))},
		{"a row that is written again", foot("", "a"), 10, clash(30, row("a"))},
		{"a row that is written again, from 29", foot("", "a"), 29, clash(30, row("a"))},
		{"a row that is seen", foot("", "a"), 30, api.Clash{}},
		{"rows that are all seen", foot("", "abcd"), math.MaxUint64, api.Clash{}},
		{"a row that was not written again", foot("", "c"), 10, api.Clash{}},
		{"an entry of an index", api.Foot{Writes: []api.Point{entry("e"), entry("a")}}, 0, api.Clash{}},
		{"an entry ahead of a row", api.Foot{Writes: []api.Point{entry("e"), row("d")}}, 0, clash(20, row("d"))},
		{"what is read", api.Foot{Points: keys("abcd"), Spans: over(onwards("")).Spans}, 0, api.Clash{}},
	} {
		wantsWrote(t, c.what, l, c.f, c.from, c.want)
	}
}

// Vd2: of feet that Check refuses, nothing and false.
func TestMeetsRefusesFeet(t *testing.T) {
	l := logOf(t, foot("", "a"), api.Foot{Writes: []api.Point{{}}})
	for name, b := range badFeet() {
		wantsRead(t, name, l, b.foot, 0, api.Clash{})
		wantsWrote(t, name, l, b.foot, 0, api.Clash{})
	}
	most := sized(1<<16-1, 0, 0)
	most.Writes = keys("a")
	wantsRead(t, "as many as may be", l, most, 0, clash(20, api.Point{}))
	wantsWrote(t, "as many as may be", l, most, 0, clash(10, row("a")))
}

// Vd2: keys may be any, the empty one too.
func TestMeetsAnyKeys(t *testing.T) {
	for _, key := range []string{"", "\x00", "\xff\xff\xff", "no key of layer 2"} {
		l := logOf(t, api.Foot{Writes: []api.Point{row(key)}})
		wantsRead(t, "a point", l, api.Foot{Points: []api.Point{row(key)}}, 0, clash(10, row(key)))
		wantsRead(t, "a range", l, over(onwards(key)), 0, clash(10, row(key)))
		wantsRead(t, "a range of it alone", l, over(upTo(key, key+"\x00")), 0, clash(10, row(key)))
		wantsRead(t, "a range behind it", l, over(onwards(key+"\x00")), 0, api.Clash{})
		wantsWrote(t, "the row", l, api.Foot{Writes: []api.Point{row(key)}}, 0, clash(10, row(key)))
	}
}
