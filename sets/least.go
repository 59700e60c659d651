package sets

import (
	"slices"

	"vellum/api"
)

// least is the first, as points stand, of those that it was shown.
type least struct {
	point api.Point
	some  bool
}

func (l *least) see(p api.Point) {
	if !l.some || compare(p, l.point) < 0 {
		l.point, l.some = p, true
	}
}

// seeShared shows it the points that two lists share.
func (l *least) seeShared(a, b []api.Point) {
	// The shorter one is put into the map: finding costs less than putting.
	if len(a) > len(b) {
		a, b = b, a
	}
	set := make(map[api.Point]struct{}, len(a))
	for _, p := range a {
		set[p] = struct{}{}
	}
	for _, p := range b {
		if _, in := set[p]; in {
			l.see(p)
		}
	}
}

// seeSpanned shows it, of each span, the first of the points that are in it.
func (l *least) seeSpanned(spans []api.Span, points []api.Point) {
	if len(spans) == 0 {
		return
	}
	rising := inOrder(points)
	for _, s := range spans {
		i, _ := slices.BinarySearchFunc(rising, begin(s), compare)
		if i < len(rising) && isIn(rising[i], s) {
			l.see(rising[i])
		}
	}
}
