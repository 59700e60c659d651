package code_test

import (
	"math/rand/v2"
	"slices"
	"strings"
	"testing"

	"vellum/api"
	"vellum/code"
)

func span(lo, hi string) api.Range { return api.Range{Lo: lo, Hi: hi} }

func open(lo, hi string) api.Range { return api.Range{Lo: lo, Hi: hi, Open: true} }

// ends is keys that are ends of ranges, and keys that lie nearest behind them.
func ends() []string {
	return []string{"", "\x00", "\x00\x00", "a", "a\x00", "a\x00\x00", "a\x01", "a\xff", "a\xff\x00", "b", "b\x00", "\xff", "\xff\x00", "\xff\xff"}
}

func ranges() []api.Range {
	var l []api.Range
	for _, lo := range ends() {
		for _, hi := range ends() {
			l = append(l, span(lo, hi))
		}
		l = append(l, open(lo, ""), open(lo, "a"))
	}
	return l
}

// isIn is the word of the chapter for a key in a range.
func isIn(r api.Range, key string) bool {
	return strings.Compare(key, r.Lo) >= 0 && (r.Open || strings.Compare(key, r.Hi) < 0)
}

// Co2: the ends of the ranges of a list.
func TestRangesOfLists(t *testing.T) {
	for _, l := range lists() {
		k := keyOf(t, l)
		if r, e := code.Begins(l); e != api.OK || r != span(k, k+"\xff") {
			t.Errorf("Begins(%s) = %+v, %d", shown(l), r, e)
		}
		if r, e := code.From(l, true); e != api.OK || r != open(k, "") {
			t.Errorf("From(%s, true) = %+v, %d", shown(l), r, e)
		}
		if r, e := code.From(l, false); e != api.OK || r != open(k+"\xff", "") {
			t.Errorf("From(%s, false) = %+v, %d", shown(l), r, e)
		}
		if r, e := code.To(l, true); e != api.OK || r != span("", k+"\xff") {
			t.Errorf("To(%s, true) = %+v, %d", shown(l), r, e)
		}
		if r, e := code.To(l, false); e != api.OK || r != span("", k) {
			t.Errorf("To(%s, false) = %+v, %d", shown(l), r, e)
		}
	}
}

// Co2: the ranges of a list whose key has MaxKey bytes; their ends have one more.
func TestRangesOfLongLists(t *testing.T) {
	l := make([]api.Value, api.MaxKey)
	k := strings.Repeat("\x01", api.MaxKey)
	if r, e := code.Begins(l); e != api.OK || r != span(k, k+"\xff") {
		t.Errorf("Begins of MaxKey nulls: %d bytes, %d bytes, %d", len(r.Lo), len(r.Hi), e)
	}
	if r, e := code.From(l, false); e != api.OK || r != open(k+"\xff", "") {
		t.Errorf("From of MaxKey nulls: %d bytes, %d", len(r.Lo), e)
	}
	if r, e := code.To(l, true); e != api.OK || r != span("", k+"\xff") {
		t.Errorf("To of MaxKey nulls: %d bytes, %d", len(r.Hi), e)
	}
}

// Co3: Point has its key and no other one, whatever bytes these are.
func TestPoint(t *testing.T) {
	keys := append(ends(), strings.Repeat("a", 2*api.MaxKey))
	for _, key := range keys {
		r := code.Point(key)
		if r != span(key, key+"\x00") {
			t.Errorf("Point(%q) = %+v", key, r)
		}
		for _, k := range keys {
			if code.Has(r, k) != (k == key) {
				t.Errorf("%q in Point(%q): %v", k, key, k != key)
			}
		}
	}
}

// Co3: Has and Empty, with every pair of ends.
func TestHasAndEmpty(t *testing.T) {
	for _, r := range ranges() {
		empty := true
		for _, key := range ends() {
			if code.Has(r, key) != isIn(r, key) {
				t.Errorf("Has(%+v, %q) = %v", r, key, !isIn(r, key))
			}
			empty = empty && !isIn(r, key)
		}
		if code.Empty(r) != empty {
			t.Errorf("Empty(%+v) = %v", r, !empty)
		}
	}
}

// Co3: Both and Meet of every two ranges.
func TestBothAndMeet(t *testing.T) {
	all := ranges()
	for _, a := range all {
		for _, b := range all {
			var in []string
			for _, key := range ends() {
				if isIn(a, key) && isIn(b, key) {
					in = append(in, key)
				}
			}
			if code.Meet(a, b) != (len(in) > 0) {
				t.Fatalf("Meet(%+v, %+v) = %v", a, b, len(in) == 0)
			}
			if got, want := code.Both(a, b), both(a, b, len(in) > 0); got != want {
				t.Fatalf("Both(%+v, %+v) = %+v, want %+v", a, b, got, want)
			}
		}
	}
}

func both(a, b api.Range, some bool) api.Range {
	var his []string
	for _, r := range []api.Range{a, b} {
		if !r.Open {
			his = append(his, r.Hi)
		}
	}
	r := api.Range{Lo: max(a.Lo, b.Lo), Open: len(his) == 0}
	if len(his) > 0 {
		r.Hi = slices.Min(his)
	}
	if !some {
		return api.Range{}
	}
	return r
}

// Co4: unions that are written out, the chapter's examples among them.
func TestUnion(t *testing.T) {
	for _, c := range []struct{ l, want []api.Range }{
		{nil, nil},
		{[]api.Range{}, nil},
		{[]api.Range{{}}, nil},
		{[]api.Range{span("b", "a"), span("a", "a"), span("z", "")}, nil},
		{[]api.Range{span("a", "c"), span("b", "d"), span("d", "e")}, []api.Range{span("a", "e")}},
		{[]api.Range{span("a", "b"), span("c", "d")}, []api.Range{span("a", "b"), span("c", "d")}},
		{[]api.Range{span("c", "d"), span("a", "b")}, []api.Range{span("a", "b"), span("c", "d")}},
		{[]api.Range{span("a", "b"), span("b", "c")}, []api.Range{span("a", "c")}},
		{[]api.Range{span("a", "b"), span("b\x00", "c")}, []api.Range{span("a", "b"), span("b\x00", "c")}},
		{[]api.Range{span("a", "z"), span("b", "c"), span("y", "z")}, []api.Range{span("a", "z")}},
		{[]api.Range{span("a", "b"), span("a", "z"), span("a", "c")}, []api.Range{span("a", "z")}},
		{[]api.Range{code.Point("a"), code.Point("a\x00")}, []api.Range{span("a", "a\x00\x00")}},
		{[]api.Range{code.Point("a"), code.Point("b")}, []api.Range{span("a", "a\x00"), span("b", "b\x00")}},
		{[]api.Range{open("c", "a"), span("a", "b")}, []api.Range{span("a", "b"), open("c", "")}},
		{[]api.Range{open("c", "z"), span("a", "c"), span("d", "e"), open("x", "b")}, []api.Range{open("a", "")}},
		{[]api.Range{open("", "a")}, []api.Range{open("", "")}},
		{[]api.Range{span("a", "c"), open("a", "b")}, []api.Range{open("a", "")}},
		{[]api.Range{span("", "\x00"), span("b", "a")}, []api.Range{span("", "\x00")}},
		{[]api.Range{span("b", "b"), span("a", "b"), span("c", "d")}, []api.Range{span("a", "b"), span("c", "d")}},
	} {
		if got := code.Union(c.l); !slices.Equal(got, c.want) {
			t.Errorf("Union(%+v) = %+v, want %+v", c.l, got, c.want)
		}
	}
}

// Co4: random unions have just the keys of their ranges, stand in order, and have a key between any two.
func TestUnionKeys(t *testing.T) {
	r := rand.New(rand.NewPCG(9, 10))
	all := ranges()
	for range 20000 {
		var l []api.Range
		for range r.IntN(7) {
			l = append(l, all[r.IntN(len(all))])
		}
		u := code.Union(l)
		for _, key := range ends() {
			has := func(s api.Range) bool { return isIn(s, key) }
			if slices.ContainsFunc(l, has) != slices.ContainsFunc(u, has) {
				t.Fatalf("Union(%+v) = %+v: not the same of %q", l, u, key)
			}
		}
		for i, s := range u {
			if s.Open && (s.Hi != "" || i < len(u)-1) || !isIn(s, s.Lo) {
				t.Fatalf("Union(%+v) = %+v: the %dth may not be", l, u, i)
			}
			if i > 0 && u[i-1].Hi >= s.Lo {
				t.Fatalf("Union(%+v) = %+v: no key between", l, u)
			}
		}
		if again := code.Union(u); !slices.Equal(again, u) {
			t.Fatalf("Union of Union(%+v) = %+v", l, again)
		}
	}
}
