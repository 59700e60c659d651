package sets

import (
	"cmp"
	"slices"
	"strings"

	"vellum/api"
	"vellum/code"
)

// tableKey is the Index of a table's own key.
const tableKey = -1

// compare tells how points stand.
func compare(a, b api.Point) int {
	if c := cmp.Compare(a.Table, b.Table); c != 0 {
		return c
	}
	if c := cmp.Compare(a.Index, b.Index); c != 0 {
		return c
	}
	return strings.Compare(a.Key, b.Key)
}

// inOrder is a new list of the same points, as they stand, each once.
func inOrder(l []api.Point) []api.Point {
	rising := slices.Clone(l)
	slices.SortFunc(rising, compare)
	return slices.Compact(rising)
}

// begin is the point at which a span begins: spans stand as these do.
func begin(s api.Span) api.Point {
	return api.Point{Table: s.Table, Index: s.Index, Key: s.Range.Lo}
}

func isIn(p api.Point, s api.Span) bool {
	return p.Table == s.Table && p.Index == s.Index && code.Has(s.Range, p.Key)
}
