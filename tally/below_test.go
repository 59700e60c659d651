package tally

import (
	"math/big"
	"testing"

	"vellum/api"
)

// leastSize is Ta3's words, with numbers that have no end.
func leastSize(counts []uint64, thousandths uint64) int {
	all, upTo := new(big.Int), new(big.Int)
	for _, n := range counts {
		all.Add(all, new(big.Int).SetUint64(n))
	}
	all.Mul(all, new(big.Int).SetUint64(thousandths))
	for size, n := range counts {
		upTo.Add(upTo, new(big.Int).SetUint64(n))
		if new(big.Int).Mul(upTo, big.NewInt(1000)).Cmp(all) >= 0 {
			return size
		}
	}
	return -1
}

// Ta3: exactly, however many there are: counts up to 2^40 - 1, which no test can count one by one, with neighbours around each bound.
func TestBelowOfGreatCounts(t *testing.T) {
	const most = 1<<40 - 1
	var lists [][]uint64
	full := make([]uint64, sizes)
	for i := range full {
		full[i] = most
	}
	lists = append(lists, full)
	for less := range uint64(4) {
		for _, first := range []uint64{1, most / 1000, most / 3, most / 2, most - 3} {
			l := make([]uint64, sizes)
			l[0], l[64] = first+less, most-first
			lists = append(lists, l)
			l = make([]uint64, sizes)
			l[7], l[8], l[63] = most-less, first, most
			lists = append(lists, l)
		}
	}
	for _, l := range lists {
		for x := range uint64(1001) {
			if size, err := below(l, x); err != api.OK || size != leastSize(l, x) {
				t.Fatalf("below(%v, %d) = %d, %d, want %d", l, x, size, err, leastSize(l, x))
			}
		}
	}
}
