package pred_test

import (
	"math"
	"math/big"
	"testing"

	"vellum/api"
	"vellum/lit"
	"vellum/pred"
)

// wholeOf is what an operator makes of two ints, worked out with endless numbers.
func wholeOf(op string, a, b int64) (*big.Int, api.Errno) {
	x, y, z := big.NewInt(a), big.NewInt(b), new(big.Int)
	switch op {
	case "+":
		z.Add(x, y)
	case "-":
		z.Sub(x, y)
	case "*":
		z.Mul(x, y)
	case "/", "%":
		if b == 0 {
			return nil, api.ErrZero
		}
		if op == "/" {
			z.Quo(x, y)
		} else {
			z.Rem(x, y)
		}
	}
	if !z.IsInt64() {
		return nil, api.ErrRange
	}
	return z, api.OK
}

func checkInts(t *testing.T, a int64, op string, b int64) {
	t.Helper()
	e := bin(num(a), op, num(b))
	z, err := wholeOf(op, a, b)
	if err != api.OK {
		checkNoEval(t, e, nulls(), err)
		return
	}
	checkEval(t, e, nulls(), lit.Int(z.Int64()))
}

// Pr2: ints, exactly or ErrRange, of all pairs of edges and of random ones.
func TestInts(t *testing.T) {
	edges := []int64{minInt, minInt + 1, minInt / 2, minInt/2 - 1, -1 << 32, -1<<31 - 1, -3037000500, -10, -3, -2, -1, 0, 1, 2, 3, 10, 3037000499, 3037000500, 1 << 31, 1<<32 - 1, 1 << 32, maxInt / 2, maxInt/2 + 1, maxInt - 1, maxInt}
	for _, op := range numberOps {
		for _, a := range edges {
			for _, b := range edges {
				checkInts(t, a, op, b)
			}
		}
	}
	m := newMaker(2)
	for range 20000 {
		a, b := int64(m.Uint64())>>m.IntN(64), int64(m.Uint64())>>m.IntN(64)
		checkInts(t, a, pick(m, numberOps), b)
	}
	for _, n := range edges {
		if n == minInt {
			checkNoEval(t, un("-", num(n)), nulls(), api.ErrRange)
			continue
		}
		checkEval(t, un("-", num(n)), nulls(), lit.Int(-n))
	}
}

// Pr2: / towards 0, % with the sign of the first one, and the edges that the chapter names.
func TestDivisions(t *testing.T) {
	for _, c := range []struct{ a, b, quotient, rest int64 }{
		{7, 2, 3, 1}, {-7, 2, -3, -1}, {7, -2, -3, 1}, {-7, -2, 3, -1}, {1, 2, 0, 1}, {-1, 2, 0, -1}, {0, 5, 0, 0}, {minInt, 1, minInt, 0}, {minInt, 2, minInt / 2, 0}, {minInt + 1, -1, maxInt, 0}, {5, minInt, 0, 5},
	} {
		checkEval(t, bin(num(c.a), "/", num(c.b)), nulls(), lit.Int(c.quotient))
		checkEval(t, bin(num(c.a), "%", num(c.b)), nulls(), lit.Int(c.rest))
	}
	checkNoEval(t, bin(num(minInt), "/", num(-1)), nulls(), api.ErrRange)
	checkEval(t, bin(num(minInt), "%", num(-1)), nulls(), lit.Int(0))
	for _, n := range []int64{minInt, -1, 0, 1, maxInt} {
		checkNoEval(t, bin(num(n), "/", num(0)), nulls(), api.ErrZero)
		checkNoEval(t, bin(num(n), "%", num(0)), nulls(), api.ErrZero)
	}
}

// floatFrom is what an operator makes of two floats, by rational numbers where those say it, else by IEEE 754's rules for infinities, NaNs and noughts.
func floatFrom(op string, a, b float64) float64 {
	negative := math.Signbit(a) != math.Signbit(b)
	signed := func(f float64) float64 {
		if negative {
			return -f
		}
		return f
	}
	if op == "-" {
		op, b = "+", math.Copysign(b, -math.Copysign(1, b))
	}
	endless := math.IsInf(a, 0) || math.IsInf(b, 0)
	switch {
	case a != a || b != b:
		return math.NaN()
	case op == "+" && endless:
		if math.IsInf(a, 0) && math.IsInf(b, 0) && a != b {
			return math.NaN()
		}
		if math.IsInf(a, 0) {
			return a
		}
		return b
	case op == "+":
		return nearest(new(big.Rat).Add(exact(a), exact(b)), math.Signbit(a) && math.Signbit(b))
	case op == "*" && endless:
		if a == 0 || b == 0 {
			return math.NaN()
		}
		return signed(math.Inf(1))
	case op == "*":
		return nearest(new(big.Rat).Mul(exact(a), exact(b)), negative)
	case math.IsInf(a, 0) && math.IsInf(b, 0), a == 0 && b == 0:
		return math.NaN()
	case math.IsInf(a, 0), b == 0:
		return signed(math.Inf(1))
	case math.IsInf(b, 0):
		return signed(0)
	}
	return nearest(new(big.Rat).Quo(exact(a), exact(b)), negative)
}

func exact(f float64) *big.Rat { return new(big.Rat).SetFloat64(f) }

// nearest has the sign that is handed in where it is a nought that no rounding made.
func nearest(r *big.Rat, negative bool) float64 {
	f, _ := r.Float64()
	if f != 0 {
		return f
	}
	if r.Sign() != 0 {
		return math.Copysign(0, float64(r.Sign()))
	}
	if negative {
		return math.Copysign(0, -1)
	}
	return 0
}

func plainly(f float64) api.Value {
	if f != f {
		return lit.Bits(plainNaN)
	}
	return lit.Float(f)
}

func floatOf(v api.Value) float64 {
	if v.Kind == api.KindInt {
		f, _ := new(big.Rat).SetInt64(v.N).Float64()
		return f
	}
	return v.F
}

// Pr2: floats, and ints beside floats, bit by bit, of all pairs of edges; no error.
func TestFloats(t *testing.T) {
	numbers := append(valuesOf(api.KindFloat), valuesOf(api.KindInt)...)
	for _, a := range numbers {
		for _, b := range numbers {
			if a.Kind == api.KindInt && b.Kind == api.KindInt {
				continue
			}
			for _, op := range numberOps[:4] {
				checkEval(t, bin(val(a), op, val(b)), nulls(), plainly(floatFrom(op, floatOf(a), floatOf(b))))
			}
		}
	}
	m := newMaker(3)
	for range 20000 {
		a, b := math.Float64frombits(m.Uint64()), math.Float64frombits(m.Uint64())
		if m.IntN(2) == 0 {
			b = a * (1 + float64(m.IntN(100))/64)
		}
		op := pick(m, numberOps[:4])
		checkEval(t, bin(flo(a), op, flo(b)), nulls(), plainly(floatFrom(op, a, b)))
	}
}

// Pr2: - turns the sign, of noughts too; NaNs are plain.
func TestFloatsTurned(t *testing.T) {
	for _, v := range valuesOf(api.KindFloat) {
		want := lit.Bits(math.Float64bits(v.F) ^ negativeZero)
		if v.F != v.F {
			want = lit.Bits(plainNaN)
		}
		checkEval(t, un("-", val(v)), nulls(), want)
	}
	for _, c := range []struct {
		text string
		want api.Value
	}{
		{"1.0 / 0.0", lit.Float(math.Inf(1))}, {"-1.0 / 0.0", lit.Float(math.Inf(-1))}, {"1 / -0.0", lit.Float(math.Inf(-1))}, {"1.0 / 0", lit.Float(math.Inf(1))},
		{"0.0 / 0.0", lit.Bits(plainNaN)}, {"Infinity - Infinity", lit.Bits(plainNaN)}, {"Infinity * 0", lit.Bits(plainNaN)}, {"-NaN", lit.Bits(plainNaN)}, {"NaN + 1", lit.Bits(plainNaN)},
		{"-0.0", lit.Bits(negativeZero)}, {"-0.0 + 0.0", lit.Bits(0)}, {"-0.0 - 0.0", lit.Bits(negativeZero)}, {"0.0 * -1", lit.Bits(negativeZero)}, {"-(0)", lit.Int(0)},
		{"9007199254740993 + 0.0", lit.Float(1 << 53)}, {"0.1 + 0.2", lit.Float(0.30000000000000004)}, {"1e308 * 10", lit.Float(math.Inf(1))}, {"5e-324 / 2", lit.Bits(0)},
		{"9223372036854775807 + 1.0", lit.Float(1 << 63)}, {"7 / 2.0", lit.Float(3.5)}, {"-Infinity", lit.Float(math.Inf(-1))},
	} {
		checkEval(t, parsed(t, c.text), nulls(), c.want)
	}
}

// Pr2: values and columns are themselves, bit by bit; only what is reckoned is made plain.
func TestThemselves(t *testing.T) {
	for _, v := range values() {
		checkEval(t, val(v), nulls(), v)
		for i, c := range table().Columns {
			if v.Kind == c.Kind {
				row := nulls()
				row[i] = v
				checkEval(t, col(i), row, v)
			}
		}
	}
	checkEval(t, col(colA), nulls(), lit.Null())
}

func checkKindOfWorth(t *testing.T, e api.Expr, row []api.Value) {
	t.Helper()
	kind, err := pred.Check(table(), e)
	if err != api.OK {
		return
	}
	v, err := pred.Eval(table(), e, row)
	if err == api.OK && v.Kind != kind && v.Kind != api.KindNull {
		t.Errorf("%s is of kind %d, and worth %v", show(e), kind, v)
	}
}
