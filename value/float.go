package value

import "math"

// A float is taken apart by its bits: a comparison of floats can't tell -0 from +0, nor one NaN from another.
const (
	signBit      = 1 << 63
	infinityBits = 0x7FF0000000000000
	plainNaNBits = 0x7FF8000000000000
)

func sameBits(a, b float64) bool { return math.Float64bits(a) == math.Float64bits(b) }

func isNaN(f float64) bool { return math.Float64bits(f)&^signBit > infinityBits }

func isInfinite(f float64) bool { return math.Float64bits(f)&^signBit == infinityBits }

func isZero(f float64) bool { return math.Float64bits(f)&^signBit == 0 }

func isSigned(f float64) bool { return math.Float64bits(f)&signBit != 0 }

func withSign(f float64) float64 { return math.Float64frombits(math.Float64bits(f) | signBit) }

func infinity() float64 { return math.Float64frombits(infinityBits) }

// plainNaN is not math.NaN, whose last bit is set.
func plainNaN() float64 { return math.Float64frombits(plainNaNBits) }

func plainFloat(f float64) float64 {
	switch {
	case isNaN(f):
		return plainNaN()
	case isZero(f):
		return 0
	}
	return f
}
