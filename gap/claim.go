package gap

import (
	"vellum/api"
	"vellum/code"
)

// claim is a taker's holds as what of them matters: which keys it has at all, and which ones alone. Both are as code.Union tells them: so two claims are held against each other in one walk, however many holds they were made of.
type claim struct {
	all   []api.Range
	alone []api.Range
}

func claimOf(l []api.Hold) claim {
	var all, alone []api.Range
	for _, h := range l {
		all = append(all, h.Range)
		if h.Alone {
			alone = append(alone, h.Range)
		}
	}
	return claim{all: code.Union(all), alone: code.Union(alone)}
}

// inWay tells whether a hold of one is in the way of one of the other's.
func inWay(a, b claim) bool {
	return meet(a.alone, b.all) || meet(a.all, b.alone)
}

// meet tells whether some key is in ranges of both lists.
func meet(a, b []api.Range) bool {
	for len(a) > 0 && len(b) > 0 {
		if a[0].Lo > b[0].Lo {
			a, b = b, a
		}
		// None is empty: so the one that begins first has the other one's first key, or ends ahead of it, and of all behind it.
		if code.Has(a[0], b[0].Lo) {
			return true
		}
		a = a[1:]
	}
	return false
}
