package store

import (
	"math"
	"math/bits"
)

// taken tells in which slots rows are, a bit a slot: so the least free one is soon found, also where nearly all are taken.
type taken []uint64

// least is the least slot in which no row is.
func (t taken) least() int {
	for i, word := range t {
		if word != math.MaxUint64 {
			return i*64 + bits.TrailingZeros64(^word)
		}
	}
	return len(t) * 64
}

// with takes a slot, one behind the last word at most.
func (t taken) with(slot int) taken {
	if slot/64 == len(t) {
		t = append(t, 0)
	}
	t[slot/64] |= 1 << (slot % 64)
	return t
}

func (t taken) without(slot int) {
	t[slot/64] &^= 1 << (slot % 64)
}

// all is the slots in which rows are, rising.
func (t taken) all() []int {
	var all []int
	for i, word := range t {
		for ; word != 0; word &= word - 1 {
			all = append(all, i*64+bits.TrailingZeros64(word))
		}
	}
	return all
}
