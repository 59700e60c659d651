package cursor_test

import (
	"math"
	"testing"

	"vellum/api"
	"vellum/lit"
)

// The chapter's first example.
func TestExampleOfScans(t *testing.T) {
	s, x := made(t, ones(1, 2, 3, 4, 5)...)
	v, r := api.View{Stamp: 1}, from(2, 5)
	tells(t, s, x, v, api.Scan{Range: r, Most: 2}, api.Range{Lo: keyOf(2), Hi: keyOf(3) + "\x00"}, 2, 3)
	tells(t, s, x, v, api.Scan{Range: r, Most: 9}, r, 2, 3, 4)
	tells(t, s, x, v, api.Scan{Range: r, Most: 1, Back: true}, from(4, 5), 4)
}

// The chapter's second example.
func TestExampleOfFolds(t *testing.T) {
	makes(t, api.FoldSum, list(lit.Int(1), lit.Null(), lit.Int(2)), lit.Int(3))
	makes(t, api.FoldSum, ints(math.MaxInt64, 1, -1), lit.Int(math.MaxInt64))
	foldRefuses(t, api.FoldSum, ints(math.MaxInt64, 1), api.ErrRange)
	makes(t, api.FoldAvg, ints(1, 2), lit.Float(1.5))
	makes(t, api.FoldSum, list(lit.Int(1), lit.Float(0.5)), lit.Float(1.5))
	makes(t, api.FoldCount, list(lit.Null()), lit.Int(0))
	makes(t, api.FoldSum, list(lit.Null()), lit.Null())
}
