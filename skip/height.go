package skip

import (
	"math/bits"

	"vellum/api"
)

// FNV-1a's numbers, for 64 bits.
const (
	fnvBegin = 14695981039346656037
	fnvPrime = 1099511628211
)

// Height is on how many levels a key stands, if nothing else is said.
func Height(key string) int {
	sum := uint64(fnvBegin)
	for i := range len(key) {
		sum = (sum ^ uint64(key[i])) * fnvPrime
	}
	return min(1+bits.TrailingZeros64(sum)/2, api.MaxHeight)
}
