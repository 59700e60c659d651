package index

import (
	"math/bits"

	"vellum/api"
)

// What height's sum begins with, and is multiplied by (FNV-1a's numbers), and the golden ratio, as 64 bits, by which its bits are mixed.
const (
	heightBegin = 14695981039346656037
	heightPrime = 1099511628211
	heightMix   = 0x9E3779B97F4A7C15
)

// height is on how many levels an entry's key stands. It goes by all bits of the key's sum: the lowest ones alone, by which layer 12 has its own height, are alike for the keys of all rows that have one value in two columns, and a list of such keys would have but one level.
func height(key string) int {
	sum := uint64(heightBegin)
	for i := range len(key) {
		sum = (sum ^ uint64(key[i])) * heightPrime
	}
	sum = (sum ^ sum>>32) * heightMix
	sum ^= sum >> 32
	return min(1+bits.TrailingZeros64(sum)/2, api.MaxHeight)
}
