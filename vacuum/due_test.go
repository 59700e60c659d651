package vacuum_test

import (
	"math"
	"math/bits"
	"slices"
	"testing"

	"vellum/api"
	"vellum/vacuum"
)

// Vc2: what is on the border is not due; what is a thousandth above it is.
func TestDueAtItsBorder(t *testing.T) {
	for _, c := range []struct{ base, thousandths, live, most int }{
		{0, 0, 0, 0},
		{0, 0, 100, 0},
		{7, 0, 100, 7},
		{0, 1000, 100, 100},
		{0, 1, 1000, 1},
		{0, 1, 999, 0},
		{0, 1, 1001, 1},
		{0, 999, 1, 0},
		{50, 200, 100, 70},
		{50, 333, 10, 53},
		{1, 2500, 3, 8},
		{3, 5, 0, 3},
	} {
		l := []api.Waste{{Live: c.live, Dead: c.most}, {Live: c.live, Dead: c.most + 1}}
		due(t, l, c.base, c.thousandths, 1)
	}
}

// Vc2: the places of all that are due, rising; what else is told of a table is not asked for.
func TestDuePlaces(t *testing.T) {
	l := []api.Waste{{Dead: 9}, {Dead: 1}, {Live: 9, Dead: 9}, {}, {Dead: 10}, {Live: 1 << 40, Dead: 11}, {Dead: 10}}
	due(t, l, 5, 1000, 0, 4, 6)
	due(t, l, 0, 0, 0, 1, 2, 4, 5, 6)
	due(t, l, 11, 0)
	due(t, []api.Waste{{Versions: 100, Rows: 100, Entries: 100}}, 0, 0)
	due(t, nil, 0, 0)
	due(t, []api.Waste{}, 50, 200)
}

// Vc2: a base or thousandths below 0 are refused, whatever the list is.
func TestDueRefuses(t *testing.T) {
	for _, l := range [][]api.Waste{nil, {}, {{Dead: 5}}} {
		for _, c := range [][2]int{{-1, 0}, {0, -1}, {-1, -1}, {math.MinInt, 5}, {5, math.MinInt}} {
			got, err := vacuum.Due(l, c[0], c[1])
			if len(got) != 0 || err != api.ErrArg {
				t.Fatalf("Due with %v: %v, error %d", c, got, err)
			}
		}
	}
}

// wide is a number of 128 bits, and its sign.
type wide struct{ hi, lo uint64 }

// times is exact: the two's complement of a product of ints.
func times(a, b int) wide {
	hi, lo := bits.Mul64(uint64(a), uint64(b))
	if a < 0 {
		hi -= uint64(b)
	}
	if b < 0 {
		hi -= uint64(a)
	}
	return wide{hi, lo}
}

func (w wide) plus(v wide) wide {
	lo, carry := bits.Add64(w.lo, v.lo, 0)
	hi, _ := bits.Add64(w.hi, v.hi, carry)
	return wide{hi, lo}
}

func (w wide) above(v wide) bool {
	if w.hi != v.hi {
		return int64(w.hi) > int64(v.hi)
	}
	return w.lo > v.lo
}

// Vc2: exactly, also beyond all ints: held against numbers of 128 bits, at all edges.
func TestDueIsExact(t *testing.T) {
	var ints []int
	for _, n := range []int{0, 1, 1 << 31, 1 << 53, 1 << 62, math.MaxInt, math.MaxInt / 1000, math.MinInt, math.MinInt / 1000} {
		ints = append(ints, n-1, n, n+1)
	}
	isDue := 0
	for _, base := range ints {
		for _, thousandths := range ints {
			if base < 0 || thousandths < 0 {
				continue
			}
			var l []api.Waste
			var want []int
			for _, live := range ints {
				for _, dead := range ints {
					if times(1000, dead).above(times(1000, base).plus(times(live, thousandths))) {
						want = append(want, len(l))
					}
					l = append(l, api.Waste{Live: live, Dead: dead})
				}
			}
			got, err := vacuum.Due(l, base, thousandths)
			if err != api.OK || !slices.Equal(got, want) {
				t.Fatalf("Due of %d, %d: %v, error %d, want %v", base, thousandths, got, err, want)
			}
			isDue += len(want)
		}
	}
	if isDue < 1000 {
		t.Errorf("only %d were due", isDue)
	}
}

// Vc2: the same of numbers that look like chance, near to the border.
func TestDueNearItsBorder(t *testing.T) {
	c := &chance{5}
	for range 20000 {
		base, thousandths, live := c.below(1<<c.below(31)+1), c.below(1<<c.below(20)+1), c.below(1<<c.below(31)+1)
		most := base + live*thousandths/1000 // less than 2^63
		for dead := most - 1; dead <= most+1; dead++ {
			var want []int
			if dead > most {
				want = []int{0}
			}
			due(t, []api.Waste{{Live: live, Dead: dead}}, base, thousandths, want...)
		}
	}
}
