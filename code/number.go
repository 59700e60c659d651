package code

import (
	"math"
	"math/bits"

	"vellum/api"
	"vellum/lit"
	"vellum/value"
)

const (
	intHead   = 0x80 // an int's first byte lies above it by the count of the others, of an int below 0 below it
	intWidth  = 8
	floatSize = 8
	signBit   = 1 << 63
)

func appendInt(key []byte, n int64) []byte {
	if n < 0 {
		// The complement of n is -(n + 1), which is an int of the least one too.
		m := uint64(^n)
		width := widthBelow(m)
		return appendHigh(append(key, byte(intHead-width)), ^m, width)
	}
	m := uint64(n)
	width := widthOf(m)
	return appendHigh(append(key, byte(intHead+width)), m, width)
}

func readInt(s string) (api.Value, int, bool) {
	if s == "" {
		return api.Value{}, 0, false
	}
	width := int(s[0]) - intHead
	if width < 0 {
		return readBelow(s[1:], -width)
	}
	m, ok := readHigh(s[1:], width)
	if !ok || m > math.MaxInt64 || widthOf(m) != width {
		return api.Value{}, 0, false
	}
	return lit.Int(int64(m)), 1 + width, true
}

func readBelow(s string, width int) (api.Value, int, bool) {
	turned, ok := readHigh(s, width)
	if !ok {
		return api.Value{}, 0, false
	}
	m := turned ^ lowBytes(width)
	if m > math.MaxInt64 || widthBelow(m) != width {
		return api.Value{}, 0, false
	}
	return lit.Int(^int64(m)), 1 + width, true
}

// widthOf is how few bytes hold m.
func widthOf(m uint64) int { return (bits.Len64(m) + 7) / 8 }

// widthBelow is that of an int below 0: at least 1, since 0x80 alone is the int 0.
func widthBelow(m uint64) int { return max(widthOf(m), 1) }

// lowBytes has all bits of the low bytes set.
func lowBytes(width int) uint64 { return 1<<(8*width) - 1 }

func appendFloat(key []byte, v api.Value) []byte {
	b := math.Float64bits(value.Plain(v).F)
	if b&signBit == 0 {
		return appendHigh(key, b^signBit, floatSize)
	}
	return appendHigh(key, ^b, floatSize)
}

func readFloat(s string) (api.Value, int, bool) {
	b, ok := readHigh(s, floatSize)
	if !ok {
		return api.Value{}, 0, false
	}
	if b&signBit != 0 {
		b ^= signBit
	} else {
		b = ^b
	}
	v := lit.Bits(b)
	if !value.Same(v, value.Plain(v)) {
		return api.Value{}, 0, false
	}
	return v, floatSize, true
}

// appendHigh puts the low bytes of n behind key, the highest of them first.
func appendHigh(key []byte, n uint64, width int) []byte {
	for i := width - 1; i >= 0; i-- {
		key = append(key, byte(n>>(8*i)))
	}
	return key
}

func readHigh(s string, width int) (uint64, bool) {
	if width > intWidth || len(s) < width {
		return 0, false
	}
	var n uint64
	for i := range width {
		n = n<<8 | uint64(s[i])
	}
	return n, true
}
