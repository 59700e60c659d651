package value_test

import (
	"math"
	"math/big"
	"slices"
	"testing"

	"vellum/api"
	"vellum/value"
)

// Va1: a list that stands in the order of all values, its places apart; the values of one place are the same there.
func TestCompare(t *testing.T) {
	places := [][]api.Value{
		{{Kind: math.MinInt, S: "z"}, {Kind: math.MinInt}},
		{{Kind: -1, N: 5}, {Kind: -1}, {Kind: -1, F: math.NaN()}},
		{null(), {N: 9}, {F: 4}, {S: "x"}},
		{boolean(-7)},
		{boolean(0), {Kind: api.KindBool, F: 3, S: "x"}},
		{boolean(1)},
		{boolean(2)},
		{whole(math.MinInt64)},
		{whole(-1)},
		{whole(0), {Kind: api.KindInt, S: "x"}, {Kind: api.KindInt, F: math.NaN()}},
		{whole(1 << 53)},
		{whole(1<<53 + 1)},
		{whole(math.MaxInt64)},
		{float(math.Inf(-1))},
		{float(-math.MaxFloat64)},
		{float(-1)},
		{float(-math.SmallestNonzeroFloat64)},
		{float(0), fromBits(negativeZero), {Kind: api.KindFloat, N: 5, S: "x"}},
		{float(math.SmallestNonzeroFloat64)},
		{float(1)},
		{float(math.MaxFloat64)},
		{float(math.Inf(1))},
		{fromBits(plainNaN), fromBits(quietNaN), fromBits(signedNaN), fromBits(signalNaN), fromBits(fullNaN)},
		{text("")},
		{text("\x00")},
		{text("B"), {Kind: api.KindText, S: "B", N: 3, F: 2}},
		{text("a")},
		{text("a\x00")},
		{text("aa")},
		{text("é")},
		{text("\uffff")},
		{text("\U00010000")},
		{text("\xff")},
		{raw("")},
		{raw("a")},
		{raw("a\x00")},
		{raw("b")},
		{raw("\xff")},
		{{Kind: 6}, {Kind: 6, N: 1}, {Kind: 6, S: "a"}},
		{{Kind: math.MaxInt}, {Kind: math.MaxInt, F: 1}},
	}
	for i, from := range places {
		for j, to := range places {
			want := sign(i - j)
			for _, a := range from {
				for _, b := range to {
					if c := value.Compare(a, b); c != want {
						t.Errorf("Compare(%v, %v) = %d, want %d", shown(a), shown(b), c, want)
					}
				}
			}
		}
	}
}

func sign(n int) int {
	return max(-1, min(1, n))
}

// Va2: numbers of both kinds in one order, exactly.
func TestNumbers(t *testing.T) {
	below := math.Nextafter(1<<63, 0)
	places := [][]api.Value{
		{float(math.Inf(-1))},
		{float(-math.MaxFloat64)},
		{float(math.Nextafter(-1<<63, math.Inf(-1)))},
		{whole(math.MinInt64), float(-1 << 63)},
		{whole(math.MinInt64 + 1)},
		{whole(-1<<53 - 1)},
		{whole(-1 << 53), float(-1 << 53)},
		{whole(-3)},
		{float(-2.5)},
		{whole(-2), float(-2)},
		{whole(-1), float(-1)},
		{float(-0.5)},
		{float(-math.SmallestNonzeroFloat64)},
		{whole(0), float(0), fromBits(negativeZero)},
		{float(math.SmallestNonzeroFloat64)},
		{float(0.5)},
		{whole(1), float(1)},
		{float(1.5)},
		{whole(2), float(2)},
		{whole(1 << 53), float(1 << 53)},
		{whole(1<<53 + 1)},
		{whole(1<<53 + 2), float(1<<53 + 2)},
		{whole(1<<63 - 1024), float(below)},
		{whole(math.MaxInt64 - 1)},
		{whole(math.MaxInt64)},
		{float(1 << 63)},
		{float(math.MaxFloat64)},
		{float(math.Inf(1))},
		{fromBits(plainNaN), fromBits(quietNaN), fromBits(signedNaN), fromBits(signalNaN), fromBits(fullNaN)},
	}
	for i, from := range places {
		for j, to := range places {
			for _, a := range from {
				for _, b := range to {
					if c, ok := value.Numbers(a, b); c != sign(i-j) || !ok {
						t.Errorf("Numbers(%v, %v) = %d, %v, want %d, true", shown(a), shown(b), c, ok, sign(i-j))
					}
				}
			}
		}
	}
}

// Va2: ints against floats near them, as rational numbers have it.
func TestNumbersExact(t *testing.T) {
	for _, v := range good() {
		if v.Kind != api.KindInt {
			continue
		}
		near := float64(v.N)
		for _, f := range []float64{near, math.Nextafter(near, math.Inf(1)), math.Nextafter(near, math.Inf(-1)), near + 0.5, near - 0.5} {
			want := new(big.Rat).SetInt64(v.N).Cmp(new(big.Rat).SetFloat64(f))
			if c, ok := value.Numbers(v, float(f)); c != want || !ok {
				t.Errorf("Numbers(%d, %v) = %d, %v, want %d, true", v.N, f, c, ok, want)
			}
			if c, ok := value.Numbers(float(f), v); c != -want || !ok {
				t.Errorf("Numbers(%v, %d) = %d, %v, want %d, true", f, v.N, c, ok, -want)
			}
		}
	}
}

// Va2: what is no number on either side.
func TestNumbersOfOthers(t *testing.T) {
	others := []api.Value{null(), boolean(1), text("1"), raw("1"), {Kind: -1}, {Kind: 6, N: 1}}
	for _, o := range others {
		for _, n := range append(slices.Clone(others), whole(1), float(1), float(math.NaN())) {
			if c, ok := value.Numbers(o, n); c != 0 || ok {
				t.Errorf("Numbers(%v, %v) = %d, %v, want 0, false", shown(o), shown(n), c, ok)
			}
			if c, ok := value.Numbers(n, o); c != 0 || ok {
				t.Errorf("Numbers(%v, %v) = %d, %v, want 0, false", shown(n), shown(o), c, ok)
			}
		}
	}
}
