package value_test

import (
	"math"
	"math/big"
	"slices"
	"testing"

	"vellum/api"
	"vellum/lit"
	"vellum/value"
)

// Va1: a list that stands in the order of all values, its places apart; the values of one place are the same there.
func TestCompare(t *testing.T) {
	places := [][]api.Value{
		{{Kind: math.MinInt, S: "z"}, {Kind: math.MinInt}},
		{{Kind: -1, N: 5}, {Kind: -1}, {Kind: -1, F: math.NaN()}},
		{lit.Null(), {N: 9}, {F: 4}, {S: "x"}},
		{{Kind: api.KindBool, N: -7}},
		{lit.Bool(false), {Kind: api.KindBool, F: 3, S: "x"}},
		{lit.Bool(true)},
		{{Kind: api.KindBool, N: 2}},
		{lit.Int(math.MinInt64)},
		{lit.Int(-1)},
		{lit.Int(0), {Kind: api.KindInt, S: "x"}, {Kind: api.KindInt, F: math.NaN()}},
		{lit.Int(1 << 53)},
		{lit.Int(1<<53 + 1)},
		{lit.Int(math.MaxInt64)},
		{lit.Float(math.Inf(-1))},
		{lit.Float(-math.MaxFloat64)},
		{lit.Float(-1)},
		{lit.Float(-math.SmallestNonzeroFloat64)},
		{lit.Float(0), lit.Bits(negativeZero), {Kind: api.KindFloat, N: 5, S: "x"}},
		{lit.Float(math.SmallestNonzeroFloat64)},
		{lit.Float(1)},
		{lit.Float(math.MaxFloat64)},
		{lit.Float(math.Inf(1))},
		{lit.Bits(plainNaN), lit.Bits(quietNaN), lit.Bits(signedNaN), lit.Bits(signalNaN), lit.Bits(fullNaN)},
		{lit.Text("")},
		{lit.Text("\x00")},
		{lit.Text("B"), {Kind: api.KindText, S: "B", N: 3, F: 2}},
		{lit.Text("a")},
		{lit.Text("a\x00")},
		{lit.Text("aa")},
		{lit.Text("é")},
		{lit.Text("\uffff")},
		{lit.Text("\U00010000")},
		{lit.Text("\xff")},
		{lit.Bytes("")},
		{lit.Bytes("a")},
		{lit.Bytes("a\x00")},
		{lit.Bytes("b")},
		{lit.Bytes("\xff")},
		{{Kind: 6}, {Kind: 6, N: 1}, {Kind: 6, S: "a"}},
		{{Kind: math.MaxInt}, {Kind: math.MaxInt, F: 1}},
	}
	for i, from := range places {
		for j, to := range places {
			want := sign(i - j)
			for _, a := range from {
				for _, b := range to {
					if c := value.Compare(a, b); c != want {
						t.Errorf("Compare(%v, %v) = %d, want %d", shown(a), shown(b), c, want)
					}
				}
			}
		}
	}
}

func sign(n int) int {
	return max(-1, min(1, n))
}

// Va2: numbers of both kinds in one order, exactly.
func TestNumbers(t *testing.T) {
	below := math.Nextafter(1<<63, 0)
	places := [][]api.Value{
		{lit.Float(math.Inf(-1))},
		{lit.Float(-math.MaxFloat64)},
		{lit.Float(math.Nextafter(-1<<63, math.Inf(-1)))},
		{lit.Int(math.MinInt64), lit.Float(-1 << 63)},
		{lit.Int(math.MinInt64 + 1)},
		{lit.Int(-1<<53 - 1)},
		{lit.Int(-1 << 53), lit.Float(-1 << 53)},
		{lit.Int(-3)},
		{lit.Float(-2.5)},
		{lit.Int(-2), lit.Float(-2)},
		{lit.Int(-1), lit.Float(-1)},
		{lit.Float(-0.5)},
		{lit.Float(-math.SmallestNonzeroFloat64)},
		{lit.Int(0), lit.Float(0), lit.Bits(negativeZero)},
		{lit.Float(math.SmallestNonzeroFloat64)},
		{lit.Float(0.5)},
		{lit.Int(1), lit.Float(1)},
		{lit.Float(1.5)},
		{lit.Int(2), lit.Float(2)},
		{lit.Int(1 << 53), lit.Float(1 << 53)},
		{lit.Int(1<<53 + 1)},
		{lit.Int(1<<53 + 2), lit.Float(1<<53 + 2)},
		{lit.Int(1<<63 - 1024), lit.Float(below)},
		{lit.Int(math.MaxInt64 - 1)},
		{lit.Int(math.MaxInt64)},
		{lit.Float(1 << 63)},
		{lit.Float(math.MaxFloat64)},
		{lit.Float(math.Inf(1))},
		{lit.Bits(plainNaN), lit.Bits(quietNaN), lit.Bits(signedNaN), lit.Bits(signalNaN), lit.Bits(fullNaN)},
	}
	for i, from := range places {
		for j, to := range places {
			for _, a := range from {
				for _, b := range to {
					if c, ok := value.Numbers(a, b); c != sign(i-j) || !ok {
						t.Errorf("Numbers(%v, %v) = %d, %v, want %d, true", shown(a), shown(b), c, ok, sign(i-j))
					}
				}
			}
		}
	}
}

// Va2: ints against floats near them, as rational numbers have it.
func TestNumbersExact(t *testing.T) {
	for _, v := range good() {
		if v.Kind != api.KindInt {
			continue
		}
		near := float64(v.N)
		for _, f := range []float64{near, math.Nextafter(near, math.Inf(1)), math.Nextafter(near, math.Inf(-1)), near + 0.5, near - 0.5} {
			want := new(big.Rat).SetInt64(v.N).Cmp(new(big.Rat).SetFloat64(f))
			if c, ok := value.Numbers(v, lit.Float(f)); c != want || !ok {
				t.Errorf("Numbers(%d, %v) = %d, %v, want %d, true", v.N, f, c, ok, want)
			}
			if c, ok := value.Numbers(lit.Float(f), v); c != -want || !ok {
				t.Errorf("Numbers(%v, %d) = %d, %v, want %d, true", f, v.N, c, ok, -want)
			}
		}
	}
}

// Va2: what is no number on either side.
func TestNumbersOfOthers(t *testing.T) {
	others := []api.Value{lit.Null(), lit.Bool(true), lit.Text("1"), lit.Bytes("1"), {Kind: -1}, {Kind: 6, N: 1}}
	for _, o := range others {
		for _, n := range append(slices.Clone(others), lit.Int(1), lit.Float(1), lit.Float(math.NaN())) {
			if c, ok := value.Numbers(o, n); c != 0 || ok {
				t.Errorf("Numbers(%v, %v) = %d, %v, want 0, false", shown(o), shown(n), c, ok)
			}
			if c, ok := value.Numbers(n, o); c != 0 || ok {
				t.Errorf("Numbers(%v, %v) = %d, %v, want 0, false", shown(n), shown(o), c, ok)
			}
		}
	}
}
