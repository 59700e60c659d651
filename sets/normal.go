package sets

import (
	"maps"
	"slices"

	"vellum/api"
	"vellum/code"
)

// normal is Norm of a foot that may be.
func normal(f api.Foot) api.Foot {
	spans := unions(f.Spans)
	points := slices.DeleteFunc(inOrder(f.Points), func(p api.Point) bool { return covers(spans, p) })
	return api.Foot{Points: points, Spans: spans, Writes: inOrder(f.Writes)}
}

// unions is the spans of a normal foot that has the points of these.
func unions(l []api.Span) []api.Span {
	// Where ranges lie is told by the least point there, so that places stand as points do.
	ranges := map[api.Point][]api.Range{}
	for _, s := range l {
		place := api.Point{Table: s.Table, Index: s.Index}
		ranges[place] = append(ranges[place], s.Range)
	}
	var spans []api.Span
	for _, place := range slices.SortedFunc(maps.Keys(ranges), compare) {
		for _, r := range code.Union(ranges[place]) {
			spans = append(spans, api.Span{Table: place.Table, Index: place.Index, Range: r})
		}
	}
	return spans
}

// covers tells whether a point is in one of a normal foot's spans: then it is in the last one that does not begin behind it.
func covers(spans []api.Span, p api.Point) bool {
	i, begins := slices.BinarySearchFunc(spans, p, func(s api.Span, p api.Point) int { return compare(begin(s), p) })
	return begins || i > 0 && isIn(p, spans[i-1])
}
