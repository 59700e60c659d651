package code_test

import (
	"fmt"
	"math"
	"math/rand/v2"
	"slices"
	"strings"
	"testing"

	"vellum/api"
	"vellum/code"
	"vellum/lit"
	"vellum/value"
)

const (
	negativeZero = 1 << 63
	plainNaN     = 0x7FF8000000000000
)

func list(values ...api.Value) []api.Value { return values }

// shown prints a list with its texts cut short.
func shown(l []api.Value) string {
	var s []string
	for _, v := range l {
		s = append(s, fmt.Sprintf("{kind %d, %d, %x, %.20q of %d bytes}", v.Kind, v.N, math.Float64bits(v.F), v.S, len(v.S)))
	}
	return "[" + strings.Join(s, " ") + "]"
}

// ints is ints at the edges of each count of bytes, and around 0.
func ints() []int64 {
	l := []int64{math.MinInt64, math.MinInt64 + 1, math.MaxInt64 - 1, math.MaxInt64}
	for n := int64(-300); n <= 300; n++ {
		l = append(l, n)
	}
	for shift := 8; shift < 63; shift++ {
		for d := int64(-2); d <= 2; d++ {
			l = append(l, 1<<shift+d, -(1<<shift)+d)
		}
	}
	slices.Sort(l)
	return slices.Compact(l)
}

// singles is values of all kinds, edges among them.
func singles() []api.Value {
	l := []api.Value{lit.Null(), lit.Bool(false), lit.Bool(true)}
	for _, n := range []int64{math.MinInt64, math.MinInt64 + 1, -65537, -65536, -257, -256, -255, -2, -1, 0, 1, 2, 127, 128, 255, 256, 65535, 65536, math.MaxInt64 - 1, math.MaxInt64} {
		l = append(l, lit.Int(n))
	}
	for _, f := range []float64{math.Inf(-1), -math.MaxFloat64, -1.5, -1, -math.SmallestNonzeroFloat64, 0, math.SmallestNonzeroFloat64, 1, 1.5, math.MaxFloat64, math.Inf(1)} {
		l = append(l, lit.Float(f))
	}
	for _, b := range []uint64{negativeZero, plainNaN, plainNaN + 1, 0xFFF8000000000000, 0x7FF0000000000001, math.MaxUint64} {
		l = append(l, lit.Bits(b))
	}
	for _, s := range []string{"", "\x00", "\x00\x00", "\x00\x01", "\x00\u00ff", "\x01", "a", "a\x00", "a\x00b", "a\x01", "ab", "b", "\u00e9", "\U0010FFFF"} {
		l = append(l, lit.Text(s), lit.Bytes(s))
	}
	return append(l, lit.Bytes("\xff"), lit.Bytes("\x00\xff"), lit.Bytes("\xff\x00"), lit.Bytes("\xff\xff"), lit.Bytes("a\xff"))
}

// lists is lists of no value, of one and of two, and longer ones.
func lists() [][]api.Value {
	l := [][]api.Value{nil}
	values := singles()
	for i, v := range values {
		l = append(l, list(v), list(v, lit.Null()), list(v, lit.Int(-1), v))
		for _, w := range values[i%7:] {
			l = append(l, list(w, v))
		}
	}
	r := rand.New(rand.NewPCG(1, 2))
	for range 200 {
		var random []api.Value
		for range r.IntN(6) {
			random = append(random, values[r.IntN(len(values))])
		}
		l = append(l, random)
	}
	return l
}

// wrong is values that may not be.
func wrong() []api.Value {
	return []api.Value{
		{Kind: -1}, {Kind: 6}, {Kind: math.MinInt}, {N: 1}, {S: "a"}, {Kind: api.KindInt, F: math.Copysign(0, -1)},
		{Kind: api.KindBool, N: 2}, {Kind: api.KindBool, N: -1}, {Kind: api.KindFloat, N: 1}, lit.Text("\xff"), lit.Text("\xed\xa0\x80"),
		lit.Text(strings.Repeat("a", api.MaxRow+1)), lit.Bytes(strings.Repeat("a", api.MaxRow+1)),
	}
}

// compareLists is the order of lists of values.
func compareLists(a, b []api.Value) int {
	return slices.CompareFunc(a, b, value.Compare)
}

// begins tells whether b is a beginning of a, as keys tell values.
func begins(a, b []api.Value) bool {
	return len(a) >= len(b) && compareLists(a[:len(b)], b) == 0
}

func identical(a, b []api.Value) bool {
	return slices.EqualFunc(a, b, func(v, w api.Value) bool {
		return v.Kind == w.Kind && v.N == w.N && math.Float64bits(v.F) == math.Float64bits(w.F) && v.S == w.S
	})
}

func plain(l []api.Value) []api.Value {
	var p []api.Value
	for _, v := range l {
		if v.Kind == api.KindFloat && v.F == 0 {
			v = lit.Float(0)
		}
		if v.Kind == api.KindFloat && v.F != v.F {
			v = lit.Bits(plainNaN)
		}
		p = append(p, v)
	}
	return p
}

// keyOf is the key of a list that has one.
func keyOf(t *testing.T, l []api.Value) string {
	t.Helper()
	key, e := code.Encode(l)
	if e != api.OK {
		t.Fatalf("Encode(%s) = %d, want OK", shown(l), e)
	}
	return key
}
