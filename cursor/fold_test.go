package cursor_test

import (
	"math"
	"math/big"
	"slices"
	"strings"
	"testing"

	"vellum/api"
	"vellum/cursor"
	"vellum/lit"
	"vellum/value"
)

const (
	plainNaN     = 0x7FF8000000000000
	negativeZero = 1 << 63
)

func list(l ...api.Value) []api.Value { return l }

func ints(l ...int64) []api.Value {
	var values []api.Value
	for _, n := range l {
		values = append(values, lit.Int(n))
	}
	return values
}

func floats(l ...float64) []api.Value {
	var values []api.Value
	for _, f := range l {
		values = append(values, lit.Float(f))
	}
	return values
}

func folds() []int {
	return []int{api.FoldCount, api.FoldSum, api.FoldMin, api.FoldMax, api.FoldAvg}
}

// makes holds what Fold makes, bit by bit, against what is wanted.
func makes(t *testing.T, what int, l []api.Value, want api.Value) {
	t.Helper()
	v, err := cursor.Fold(what, l)
	if err != api.OK || !value.Same(v, want) {
		t.Errorf("Fold(%d, %v): %v, %d, want %v", what, l, v, err, want)
	}
}

func foldRefuses(t *testing.T, what int, l []api.Value, want api.Errno) {
	t.Helper()
	v, err := cursor.Fold(what, l)
	if err != want || !value.Same(v, api.Value{}) {
		t.Errorf("Fold(%d, %v): %v, %d, want %d", what, l, v, err, want)
	}
}

// Cu4: there are five, and no others; that is told ahead of values that may not be.
func TestFoldOfNone(t *testing.T) {
	for _, what := range []int{math.MinInt, -1, 0, 6, 7, math.MaxInt} {
		foldRefuses(t, what, nil, api.ErrArg)
		foldRefuses(t, what, ints(1, 2), api.ErrArg)
		foldRefuses(t, what, list(api.Value{Kind: 9}), api.ErrArg)
	}
}

// Cu4: the first value that may not be is told, ahead of kinds and of sums.
func TestFoldOfWrongValues(t *testing.T) {
	odd, long := api.Value{Kind: 9}, lit.Text(strings.Repeat("x", api.MaxRow+1))
	for _, what := range folds() {
		foldRefuses(t, what, list(odd, long), api.ErrValue)
		foldRefuses(t, what, list(long, odd), api.ErrLong)
		foldRefuses(t, what, list(lit.Null(), lit.Text("x"), lit.Int(1), long), api.ErrLong)
		foldRefuses(t, what, list(lit.Int(math.MaxInt64), lit.Int(1), api.Value{Kind: api.KindBool, N: 2}), api.ErrValue)
		foldRefuses(t, what, list(lit.Text("\xff")), api.ErrValue)
		foldRefuses(t, what, list(api.Value{N: 1}), api.ErrValue)
	}
}

// Cu4: nulls count nowhere; without other values there is null, but of a count 0.
func TestFoldOfNulls(t *testing.T) {
	for _, l := range [][]api.Value{nil, {}, list(lit.Null()), list(lit.Null(), lit.Null())} {
		for _, what := range folds() {
			want := lit.Null()
			if what == api.FoldCount {
				want = lit.Int(0)
			}
			makes(t, what, l, want)
		}
	}
	l := list(lit.Null(), lit.Int(4), lit.Null(), lit.Int(2), lit.Null())
	for what, want := range map[int]api.Value{api.FoldCount: lit.Int(2), api.FoldSum: lit.Int(6), api.FoldMin: lit.Int(2), api.FoldMax: lit.Int(4), api.FoldAvg: lit.Float(3)} {
		makes(t, what, l, want)
	}
}

func TestFoldCount(t *testing.T) {
	makes(t, api.FoldCount, list(lit.Bool(false), lit.Int(0), lit.Null(), lit.Float(math.NaN()), lit.Text(""), lit.Bytes("")), lit.Int(5))
	makes(t, api.FoldCount, ints(math.MaxInt64, math.MaxInt64), lit.Int(2))
	makes(t, api.FoldCount, slices.Repeat(ints(7), 70000), lit.Int(70000))
}

// Cu4: the first one of those that are least, or greatest, by layer 1's order, as it is.
func TestFoldMinMax(t *testing.T) {
	extremes := func(l []api.Value, least, greatest api.Value) {
		t.Helper()
		makes(t, api.FoldMin, l, least)
		makes(t, api.FoldMax, l, greatest)
	}
	extremes(ints(3, -1, 7, 0), lit.Int(-1), lit.Int(7))
	extremes(ints(math.MaxInt64, math.MinInt64), lit.Int(math.MinInt64), lit.Int(math.MaxInt64))
	extremes(list(lit.Bool(true), lit.Bool(false)), lit.Bool(false), lit.Bool(true))
	extremes(list(lit.Text("b"), lit.Text("a\x00"), lit.Text("a")), lit.Text("a"), lit.Text("b"))
	extremes(list(lit.Bytes("\xff"), lit.Bytes("")), lit.Bytes(""), lit.Bytes("\xff"))
	extremes(list(lit.Float(0), lit.Bits(negativeZero)), lit.Float(0), lit.Float(0))
	extremes(list(lit.Bits(negativeZero), lit.Float(0)), lit.Bits(negativeZero), lit.Bits(negativeZero))
	extremes(list(lit.Float(math.Inf(1)), lit.Bits(0xFFF0000000000001), lit.Float(math.Inf(-1)), lit.Bits(plainNaN)), lit.Float(math.Inf(-1)), lit.Bits(0xFFF0000000000001))
	extremes(list(lit.Text("x"), lit.Int(5), lit.Float(-9), lit.Bool(true), lit.Bytes("")), lit.Bool(true), lit.Bytes(""))
	extremes(list(lit.Int(5), lit.Float(4)), lit.Int(5), lit.Float(4))
}

// Cu4: sums are of ints and floats alone; that is told ahead of a sum that is too great.
func TestSumOfOtherKinds(t *testing.T) {
	for _, what := range []int{api.FoldSum, api.FoldAvg} {
		for _, v := range []api.Value{lit.Bool(true), lit.Text("1"), lit.Bytes("")} {
			foldRefuses(t, what, list(v), api.ErrType)
			foldRefuses(t, what, list(lit.Int(1), lit.Null(), v), api.ErrType)
			foldRefuses(t, what, list(lit.Float(1), v, lit.Int(1)), api.ErrType)
			foldRefuses(t, what, list(lit.Int(math.MaxInt64), lit.Int(1), v), api.ErrType)
		}
	}
}

// Cu4: the sum of ints is exact, however great it is on the way.
func TestSumOfInts(t *testing.T) {
	const greatest, least = math.MaxInt64, math.MinInt64
	makes(t, api.FoldSum, ints(-5), lit.Int(-5))
	makes(t, api.FoldSum, ints(greatest, 1, -1), lit.Int(greatest))
	makes(t, api.FoldSum, ints(greatest, greatest, greatest, least, least, least), lit.Int(-3))
	makes(t, api.FoldSum, ints(least, -1, 1), lit.Int(least))
	makes(t, api.FoldSum, ints(greatest, least), lit.Int(-1))
	makes(t, api.FoldSum, ints(greatest, 0), lit.Int(greatest))
	makes(t, api.FoldSum, ints(least, 0), lit.Int(least))
	makes(t, api.FoldSum, ints(1<<53, 1), lit.Int(1<<53+1))
	for _, l := range [][]api.Value{ints(greatest, 1), ints(1, greatest), ints(least, -1), ints(greatest, greatest), ints(least, least), ints(greatest, greatest, greatest, 5), ints(least, least, least, least, least)} {
		foldRefuses(t, api.FoldSum, l, api.ErrRange)
		foldRefuses(t, api.FoldAvg, l, api.ErrRange)
	}
	foldRefuses(t, api.FoldSum, slices.Repeat(ints(1<<62), 1<<16), api.ErrRange)
	makes(t, api.FoldSum, append(slices.Repeat(ints(1<<62), 1<<15), slices.Repeat(ints(-1<<62), 1<<15)...), lit.Int(0))
}

// Cu4: the average of ints is their sum as a float, divided by how many there are.
func TestAverageOfInts(t *testing.T) {
	makes(t, api.FoldAvg, ints(1, 2), lit.Float(1.5))
	makes(t, api.FoldAvg, ints(4), lit.Float(4))
	makes(t, api.FoldAvg, ints(1, 0, 0), lit.Float(1.0/3))
	makes(t, api.FoldAvg, ints(-1, 0, 0), lit.Float(-1.0/3))
	makes(t, api.FoldAvg, ints(5, -5), lit.Float(0))
	makes(t, api.FoldAvg, ints(1<<53+1), lit.Float(1<<53))
	makes(t, api.FoldAvg, ints(math.MaxInt64, 1, -1), lit.Float(float64(1<<63)/3))
	// Divided exactly it would be 3002399751580330 and 2/3, and rounded once more: the sum is rounded ahead of that.
	sum := int64(1<<53 + 1)
	makes(t, api.FoldAvg, ints(sum, 0, 0), lit.Float(float64(1<<53)/3))
}

// Cu4: with one float all are floats, each cast by itself, added from the left.
func TestSumOfFloats(t *testing.T) {
	inf := math.Inf(1)
	makes(t, api.FoldSum, list(lit.Int(1), lit.Float(0.5)), lit.Float(1.5))
	makes(t, api.FoldSum, list(lit.Float(0.5), lit.Int(1)), lit.Float(1.5))
	makes(t, api.FoldSum, floats(1, 1e100, -1e100), lit.Float(0))
	makes(t, api.FoldSum, floats(1e100, -1e100, 1), lit.Float(1))
	makes(t, api.FoldSum, floats(0.1, 0.2, 0.3), lit.Float(0.6000000000000001))
	makes(t, api.FoldSum, floats(0.3, 0.2, 0.1), lit.Float(0.6))
	makes(t, api.FoldSum, list(lit.Int(1<<53+1), lit.Int(1), lit.Float(0)), lit.Float(1<<53))
	makes(t, api.FoldSum, list(lit.Int(math.MaxInt64), lit.Int(math.MaxInt64), lit.Float(0)), lit.Float(1<<64))
	makes(t, api.FoldSum, list(lit.Int(math.MaxInt64), lit.Float(-1<<63)), lit.Float(0))
	makes(t, api.FoldSum, floats(math.MaxFloat64, math.MaxFloat64), lit.Float(inf))
	makes(t, api.FoldSum, floats(math.MaxFloat64, math.MaxFloat64, -math.MaxFloat64), lit.Float(inf))
	makes(t, api.FoldSum, floats(5e-324, 5e-324), lit.Float(1e-323))
	makes(t, api.FoldAvg, floats(math.MaxFloat64, math.MaxFloat64), lit.Float(inf))
	makes(t, api.FoldAvg, floats(5e-324, 0), lit.Float(0))
	makes(t, api.FoldAvg, list(lit.Int(1), lit.Float(1), lit.Null(), lit.Int(2)), lit.Float(4.0/3))
}

// Cu4: noughts keep their signs, and each NaN is the plain one.
func TestSumOfNoughtsAndNaNs(t *testing.T) {
	zero, inf := lit.Bits(negativeZero), lit.Float(math.Inf(1))
	for _, what := range []int{api.FoldSum, api.FoldAvg} {
		makes(t, what, list(zero), zero)
		makes(t, what, list(lit.Null(), zero, zero), zero)
		makes(t, what, list(zero, lit.Float(0)), lit.Float(0))
		makes(t, what, list(zero, lit.Int(0)), lit.Float(0))
		makes(t, what, floats(1, -1), lit.Float(0))
		makes(t, what, list(inf, lit.Int(1)), inf)
		makes(t, what, list(inf, lit.Float(math.Inf(-1))), lit.Bits(plainNaN))
		for _, bits := range []uint64{plainNaN, 0x7FF0000000000001, 0xFFF8000000000000, math.MaxUint64} {
			makes(t, what, list(lit.Bits(bits)), lit.Bits(plainNaN))
			makes(t, what, list(lit.Bits(bits), lit.Int(1)), lit.Bits(plainNaN))
			makes(t, what, list(lit.Int(1), lit.Bits(bits), lit.Bits(bits)), lit.Bits(plainNaN))
		}
	}
}

// someInts is ints near the ends, and others.
func someInts(c *chance) []api.Value {
	ends := []int64{math.MaxInt64, math.MaxInt64 - 1, math.MinInt64, math.MinInt64 + 1, 1 << 62, -1 << 62, 1, -1, 0, 1 << 53, -7}
	var l []api.Value
	for range 1 + c.below(7) {
		l = append(l, lit.Int(ends[c.below(len(ends))]))
		if c.below(5) == 0 {
			l = append(l, lit.Null())
		}
	}
	return l
}

// exactly is the sum of ints, whatever it is, and how many there are.
func exactly(l []api.Value) (*big.Int, int) {
	sum, n := new(big.Int), 0
	for _, v := range l {
		if v.Kind == api.KindInt {
			sum.Add(sum, big.NewInt(v.N))
			n++
		}
	}
	return sum, n
}

// Cu4, Cu8: sums and averages of ints against great numbers, in any order.
func TestRunsOfInts(t *testing.T) {
	met := count{}
	c := chance{5}
	for range 20000 {
		l := someInts(&c)
		sum, n := exactly(l)
		if !sum.IsInt64() {
			met["beyond"]++
			foldRefuses(t, api.FoldSum, l, api.ErrRange)
			foldRefuses(t, api.FoldAvg, l, api.ErrRange)
			slices.Reverse(l)
			foldRefuses(t, api.FoldSum, l, api.ErrRange)
			continue
		}
		met["an int"]++
		average := float64(sum.Int64()) / float64(n)
		for range 2 {
			makes(t, api.FoldSum, l, lit.Int(sum.Int64()))
			makes(t, api.FoldAvg, l, lit.Float(average))
			makes(t, api.FoldCount, l, lit.Int(int64(n)))
			slices.Reverse(l)
		}
	}
	met.atLeast(t, 5000, "beyond", "an int")
}

// someValues is of all kinds, with values that are the same and yet not Same.
func someValues() []api.Value {
	return list(lit.Null(), lit.Bool(false), lit.Bool(true), lit.Int(0), lit.Int(-4), lit.Int(9), lit.Float(0), lit.Bits(negativeZero), lit.Float(2.5),
		lit.Bits(plainNaN), lit.Bits(math.MaxUint64), lit.Text(""), lit.Text("a"), lit.Bytes(""), lit.Bytes("b"))
}

// Cu4, Cu8: least and greatest are at their places among all, and the first ones there, in any order.
func TestRunsOfMinMax(t *testing.T) {
	c := chance{6}
	values := someValues()
	for range 20000 {
		var l []api.Value
		for range c.below(8) {
			l = append(l, values[c.below(len(values))])
		}
		for what, sign := range map[int]int{api.FoldMin: 1, api.FoldMax: -1} {
			best := lit.Null()
			for _, v := range l {
				if v.Kind != api.KindNull && (best.Kind == api.KindNull || sign*value.Compare(v, best) < 0) {
					best = v
				}
			}
			makes(t, what, l, best)
			other := slices.Clone(l)
			slices.Reverse(other)
			if v, _ := cursor.Fold(what, other); value.Compare(v, best) != 0 {
				t.Errorf("Fold(%d, %v): %v, want one like %v", what, other, v, best)
			}
		}
	}
}
