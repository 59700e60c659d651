package num_test

import (
	"math"
	"testing"

	"vellum/api"
	"vellum/lit"
	"vellum/num"
	"vellum/value"
)

func TestFloat(t *testing.T) {
	negativeZero := math.Copysign(0, -1)
	for _, c := range []struct {
		v    api.Value
		want float64
	}{
		{lit.Int(0), 0}, {lit.Int(-3), -3}, {lit.Int(1<<53 + 1), 1 << 53}, {lit.Int(1<<53 + 3), 1<<53 + 4}, {lit.Int(math.MaxInt64), 1 << 63},
		{lit.Float(2.5), 2.5}, {lit.Float(negativeZero), negativeZero}, {lit.Float(math.Inf(-1)), math.Inf(-1)},
	} {
		if f := num.Float(c.v); math.Float64bits(f) != math.Float64bits(c.want) {
			t.Errorf("Float(%v) = %v, want %v", c.v, f, c.want)
		}
	}
}

func TestTold(t *testing.T) {
	const plain = 0x7FF8000000000000
	for _, c := range []struct{ bits, want uint64 }{
		{0, 0}, {1 << 63, 1 << 63}, {0x3FF0000000000000, 0x3FF0000000000000}, {0x7FF0000000000000, 0x7FF0000000000000}, {0xFFF0000000000000, 0xFFF0000000000000},
		{plain, plain}, {0x7FF0000000000001, plain}, {0xFFF8000000000000, plain}, {math.MaxUint64, plain},
	} {
		if v := num.Told(math.Float64frombits(c.bits)); !value.Same(v, lit.Bits(c.want)) {
			t.Errorf("Told of the bits %x: %v, want the bits %x", c.bits, v, c.want)
		}
	}
}
