package value_test

import (
	"fmt"
	"math"
	"math/big"
	"math/rand/v2"
	"strings"

	"vellum/api"
	"vellum/lit"
)

const (
	negativeZero = 1 << 63
	plainNaN     = 0x7FF8000000000000
	quietNaN     = 0x7FF8000000000001
	signedNaN    = 0xFFF8000000000000
	signalNaN    = 0x7FF0000000000001
	fullNaN      = 0xFFFFFFFFFFFFFFFF
)

// shown is a value that prints with its S cut short.
type shown api.Value

func (v shown) String() string {
	return fmt.Sprintf("{kind %d, %d, %v (%x), %.40q of %d bytes}", v.Kind, v.N, v.F, math.Float64bits(v.F), v.S, len(v.S))
}

// identical is Same written anew, so that a faulty Same hides nothing.
func identical(a, b api.Value) bool {
	return a.Kind == b.Kind && a.N == b.N && math.Float64bits(a.F) == math.Float64bits(b.F) && a.S == b.S
}

// good is values that may be.
func good() []api.Value {
	values := []api.Value{lit.Null(), lit.Bool(false), lit.Bool(true)}
	for _, n := range []int64{math.MinInt64, math.MinInt64 + 1, -1<<53 - 1, -1 << 53, -2, -1, 0, 1, 2, 5, 10, 1 << 53, 1<<53 + 1, 1<<53 + 2, math.MaxInt64 - 1, math.MaxInt64} {
		values = append(values, lit.Int(n))
	}
	for _, f := range []float64{math.Inf(-1), -math.MaxFloat64, -1 << 63, -1 << 53, -2.5, -1, -math.SmallestNonzeroFloat64, 0, math.SmallestNonzeroFloat64, 0x1p-1022, 0.1, 0.5, 1, 1.5, 2, 1 << 53, 1<<53 + 2, 1 << 62, 1 << 63, 1 << 64, 1e22, 1e23, math.MaxFloat64, math.Inf(1)} {
		values = append(values, lit.Float(f))
	}
	for _, b := range []uint64{negativeZero, plainNaN, quietNaN, signedNaN, signalNaN, fullNaN} {
		values = append(values, lit.Bits(b))
	}
	for _, s := range []string{"", "\x00", "'", "''", "a", "ab", "b", "it's", "null", "true", "5", "0.5", "é", "\U0010FFFF", strings.Repeat("'", api.MaxRow), strings.Repeat("é", api.MaxRow/2)} {
		values = append(values, lit.Text(s), lit.Bytes(s))
	}
	return append(values, lit.Bytes("\xff"), lit.Bytes("a\xff"), lit.Bytes("\xc3"), lit.Bytes("\xed\xa0\x80"))
}

// wrong is values that may not be, by the error that Check has for them.
func wrong() map[api.Errno][]api.Value {
	minus := math.Float64frombits(negativeZero)
	long := strings.Repeat("a", api.MaxRow+1)
	return map[api.Errno][]api.Value{
		api.ErrValue: {
			{Kind: -1}, {Kind: 6}, {Kind: math.MinInt}, {Kind: math.MaxInt}, {Kind: 6, S: long},
			{N: 1}, {N: -1}, {F: 1}, {F: minus}, {F: math.NaN()}, {S: "a"}, {S: long},
			{Kind: api.KindBool, N: 2}, {Kind: api.KindBool, N: -1}, {Kind: api.KindBool, N: math.MinInt64}, {Kind: api.KindBool, F: minus}, {Kind: api.KindBool, S: "t"},
			{Kind: api.KindInt, F: minus}, {Kind: api.KindInt, F: math.Inf(1)}, {Kind: api.KindInt, S: "1"}, {Kind: api.KindInt, S: long},
			{Kind: api.KindFloat, N: 1}, {Kind: api.KindFloat, F: math.NaN(), N: -1}, {Kind: api.KindFloat, S: "1"},
			{Kind: api.KindText, N: 1}, {Kind: api.KindText, F: minus}, {Kind: api.KindText, S: long, N: 1},
			lit.Text("\xff"), lit.Text("a\xc3"), lit.Text("\xed\xa0\x80"), lit.Text("\xc0\x80"), lit.Text("\xf4\x90\x80\x80"), lit.Text(long + "\xff"),
			{Kind: api.KindBytes, N: 1}, {Kind: api.KindBytes, F: minus}, {Kind: api.KindBytes, S: long, N: 1},
		},
		api.ErrLong: {lit.Text(long), lit.Bytes(long), lit.Bytes(long + "\xff"), lit.Text(strings.Repeat("é", api.MaxRow/2) + "a")},
	}
}

// all is good and wrong values together.
func all() []api.Value {
	values := good()
	for _, list := range wrong() {
		values = append(values, list...)
	}
	return values
}

// floats is floats of all sizes: random bits, powers of two with their neighbours, and numbers of few digits.
func floats(count int) []float64 {
	r := rand.New(rand.NewPCG(1, 2))
	var list []float64
	add := func(f float64) {
		if !math.IsNaN(f) && !math.IsInf(f, 0) {
			list = append(list, f)
		}
	}
	for e := -1074; e <= 1023; e++ {
		f := math.Ldexp(1, e)
		add(f)
		add(math.Nextafter(f, 0))
		add(math.Nextafter(f, math.Inf(1)))
	}
	for range count {
		add(math.Float64frombits(r.Uint64()))
		add(math.Float64frombits(r.Uint64() & (1<<52 - 1)))
		add(float64(r.Int64N(1<<60)) / 1000)
		add(float64(r.IntN(2000)-1000) / 8)
	}
	return append(list, 0, math.MaxFloat64, -math.MaxFloat64)
}

// nearest is the float nearest to a rational number, of two as near the even one, worked out apart from strconv; infinite beyond all finite ones.
func nearest(r *big.Rat) float64 {
	f, _ := r.Float64()
	return f
}
