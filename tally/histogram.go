package tally

import (
	"math/bits"
	"sync/atomic"

	"vellum/api"
)

// sizes is how many sizes there are: from 0, which 0 alone has, to 64.
const sizes = 65

// Histogram counts numbers by their size.
type Histogram struct {
	counts [sizes]atomic.Uint64
}

// NewHistogram counts nothing yet.
func NewHistogram() *Histogram { return &Histogram{} }

// Count counts a number.
func (h *Histogram) Count(n uint64) {
	h.counts[bits.Len64(n)].Add(1)
}

// Counts is how many numbers there are of each size.
func (h *Histogram) Counts() []uint64 {
	counts := make([]uint64, sizes)
	for i := range h.counts {
		counts[i] = h.counts[i].Load()
	}
	return counts
}

// Below is the least size up to which there are so many thousandths of all numbers.
func (h *Histogram) Below(thousandths int) (int, api.Errno) {
	if thousandths < 0 || thousandths > 1000 {
		return 0, api.ErrArg
	}
	// All is worked out from one copy: others may count meanwhile, and the parts would no longer make up the whole.
	return below(h.Counts(), uint64(thousandths))
}

// below stays exact: 65 counts below 2^40, 1000 times, are below 2^57.
func below(counts []uint64, thousandths uint64) (int, api.Errno) {
	var all uint64
	for _, n := range counts {
		all += n
	}
	if all == 0 {
		return 0, api.ErrNone
	}
	size, upTo := 0, counts[0]
	for size < sizes-1 && upTo*1000 < all*thousandths {
		size++
		upTo += counts[size]
	}
	return size, api.OK
}
