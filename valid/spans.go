package valid

import (
	"cmp"
	"sort"
	"strings"

	"vellum/api"
	"vellum/sets"
)

// covers tells whether a point is in one of a normal foot's spans: then it is in the last one that does not begin behind it.
func covers(spans []api.Span, p api.Point) bool {
	i := sort.Search(len(spans), func(i int) bool { return beginsBehind(spans[i], p) })
	return i > 0 && sets.Reads(api.Foot{Spans: spans[i-1 : i]}, p)
}

// beginsBehind tells whether a span begins behind a point.
func beginsBehind(s api.Span, p api.Point) bool {
	return cmp.Or(cmp.Compare(s.Table, p.Table), cmp.Compare(s.Index, p.Index), strings.Compare(s.Range.Lo, p.Key)) > 0
}
