package row

// A varint's byte has seven bits of the number, and one that tells that more bytes come.
const (
	varintBits = 7
	varintMore = 1 << varintBits
	varintMost = 10 // bytes of a number of 64 bits
)

func appendVarint(b []byte, n uint64) []byte {
	for n >= varintMore {
		b = append(b, byte(n)|varintMore)
		n >>= varintBits
	}
	return append(b, byte(n))
}

// readVarint is the number with whose varint s begins, and how many bytes that has; false: it begins with none.
func readVarint(s string) (uint64, int, bool) {
	var n uint64
	for i := range min(len(s), varintMost) {
		part := uint64(s[i] &^ varintMore)
		high := part << (varintBits * i)
		n |= high
		if s[i] < varintMore {
			// A last byte of 0 would be one too many; one of which bits are shifted out is of a number beyond 64 bits.
			fits := high>>(varintBits*i) == part
			return n, i + 1, fits && (part != 0 || i == 0)
		}
	}
	return 0, 0, false
}

// zigzag has numbers near 0 small, whatever their sign.
func zigzag(n int64) uint64 {
	if n >= 0 {
		return 2 * uint64(n)
	}
	// The complement of n is -n - 1, which is an int of the least one too.
	return 2*uint64(^n) + 1
}

func unzigzag(z uint64) int64 {
	half := int64(z / 2)
	if z%2 == 0 {
		return half
	}
	return ^half
}
