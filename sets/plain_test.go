package sets_test

import (
	"slices"
	"strings"

	"vellum/api"
	"vellum/code"
)

// The words of the chapter, one by one, without maps and without searches.

// stands tells whether a point stands ahead of another one.
func stands(a, b api.Point) bool {
	if a.Table != b.Table {
		return a.Table < b.Table
	}
	if a.Index != b.Index {
		return a.Index < b.Index
	}
	return strings.Compare(a.Key, b.Key) < 0
}

func plainReads(f api.Foot, p api.Point) bool {
	for _, q := range f.Points {
		if q.Table == p.Table && q.Index == p.Index && q.Key == p.Key {
			return true
		}
	}
	return plainSpans(f.Spans, p)
}

func plainSpans(l []api.Span, p api.Point) bool {
	for _, s := range l {
		if s.Table == p.Table && s.Index == p.Index && code.Has(s.Range, p.Key) {
			return true
		}
	}
	return false
}

// plainOrder takes the least point that is left, again and again.
func plainOrder(l []api.Point) []api.Point {
	var rising []api.Point
	for {
		var least *api.Point
		for i, p := range l {
			if (len(rising) == 0 || stands(rising[len(rising)-1], p)) && (least == nil || stands(p, *least)) {
				least = &l[i]
			}
		}
		if least == nil {
			return rising
		}
		rising = append(rising, *least)
	}
}

// plainNorm is the normal foot whose spans are the unions of a foot's own.
func plainNorm(f api.Foot) api.Foot {
	var begins []api.Point
	for _, s := range f.Spans {
		begins = append(begins, api.Point{Table: s.Table, Index: s.Index})
	}
	n := api.Foot{Writes: plainOrder(f.Writes)}
	for _, place := range plainOrder(begins) {
		var there []api.Range
		for _, s := range f.Spans {
			if s.Table == place.Table && s.Index == place.Index {
				there = append(there, s.Range)
			}
		}
		for _, r := range code.Union(there) {
			n.Spans = append(n.Spans, api.Span{Table: place.Table, Index: place.Index, Range: r})
		}
	}
	for _, p := range plainOrder(f.Points) {
		if !plainSpans(f.Spans, p) {
			n.Points = append(n.Points, p)
		}
	}
	return n
}

func plainMerge(a, b api.Foot) api.Foot {
	return plainNorm(api.Foot{
		Points: slices.Concat(a.Points, b.Points),
		Spans:  slices.Concat(a.Spans, b.Spans),
		Writes: slices.Concat(a.Writes, b.Writes),
	})
}

func plainClash(reader, writer api.Foot) (api.Point, bool) {
	for _, p := range plainOrder(writer.Writes) {
		if plainReads(reader, p) {
			return p, true
		}
	}
	return api.Point{}, false
}

func plainBoth(a, b api.Foot) (api.Point, bool) {
	for _, p := range plainOrder(a.Writes) {
		if p.Index == -1 && slices.Contains(b.Writes, p) {
			return p, true
		}
	}
	return api.Point{}, false
}

func plainWithout(f api.Foot, table int) api.Foot {
	var left api.Foot
	for _, p := range f.Points {
		if p.Table != table {
			left.Points = append(left.Points, p)
		}
	}
	for _, s := range f.Spans {
		if s.Table != table {
			left.Spans = append(left.Spans, s)
		}
	}
	for _, p := range f.Writes {
		if p.Table != table {
			left.Writes = append(left.Writes, p)
		}
	}
	return left
}

// isNormal is the chapter's word.
func isNormal(f api.Foot) bool {
	for _, l := range [][]api.Point{f.Points, f.Writes} {
		for i := 1; i < len(l); i++ {
			if !stands(l[i-1], l[i]) {
				return false
			}
		}
	}
	for _, p := range f.Points {
		if plainSpans(f.Spans, p) {
			return false
		}
	}
	return slices.Equal(f.Spans, plainNorm(f).Spans)
}
