package tally_test

import (
	"math"
	"math/big"
	"slices"
	"strconv"
	"sync"
	"testing"

	"vellum/api"
	"vellum/tally"
)

// sizeOf counts a number's binary digits as they are written.
func sizeOf(n uint64) int {
	if n == 0 {
		return 0
	}
	return len(strconv.FormatUint(n, 2))
}

// belowOf is Below worked out by its words, with numbers that have no end.
func belowOf(counts []uint64, thousandths int) int {
	all := new(big.Int)
	for _, n := range counts {
		all.Add(all, new(big.Int).SetUint64(n))
	}
	want := all.Mul(all, big.NewInt(int64(thousandths)))
	upTo := new(big.Int)
	for size, n := range counts {
		upTo.Add(upTo, new(big.Int).SetUint64(n))
		if new(big.Int).Mul(upTo, big.NewInt(1000)).Cmp(want) >= 0 {
			return size
		}
	}
	return -1
}

func histogramOf(l []uint64) (*tally.Histogram, []uint64) {
	h, counts := tally.NewHistogram(), make([]uint64, 65)
	for _, n := range l {
		h.Count(n)
		counts[sizeOf(n)]++
	}
	return h, counts
}

// holdsBelow asks for all thousandths.
func holdsBelow(t *testing.T, h *tally.Histogram, counts []uint64) {
	t.Helper()
	for x := 0; x <= 1000; x++ {
		if size, err := h.Below(x); err != api.OK || size != belowOf(counts, x) {
			t.Fatalf("Below(%d) = %d, %d, want %d; counts %v", x, size, err, belowOf(counts, x), counts)
		}
	}
}

// Ta3: the chapter's example.
func TestHistogramExample(t *testing.T) {
	h, _ := histogramOf([]uint64{0, 1, 2, 3})
	want := make([]uint64, 65)
	want[0], want[1], want[2] = 1, 1, 2
	if l := h.Counts(); !slices.Equal(l, want) {
		t.Errorf("Counts %v", l)
	}
	for _, x := range []struct{ thousandths, size int }{{500, 1}, {0, 0}, {250, 0}, {251, 1}, {501, 2}, {1000, 2}} {
		if size, err := h.Below(x.thousandths); err != api.OK || size != x.size {
			t.Errorf("Below(%d) = %d, %d, want %d", x.thousandths, size, err, x.size)
		}
	}
}

// Ta3: nothing was counted: 65 noughts, and ErrNone at all thousandths, 0 too; ErrArg comes ahead of it.
func TestHistogramOfNothing(t *testing.T) {
	h := tally.NewHistogram()
	if l := h.Counts(); !slices.Equal(l, make([]uint64, 65)) {
		t.Errorf("Counts %v, want 65 noughts", l)
	}
	for _, x := range []int{0, 1, 500, 1000} {
		if size, err := h.Below(x); size != 0 || err != api.ErrNone {
			t.Errorf("Below(%d) = %d, %d, want ErrNone", x, size, err)
		}
	}
	for _, x := range []int{math.MinInt, -1000, -1, 1001, 1 << 20, math.MaxInt} {
		if size, err := h.Below(x); size != 0 || err != api.ErrArg {
			t.Errorf("Below(%d) = %d, %d, want ErrArg", x, size, err)
		}
	}
}

// Ta3, R2: thousandths that may not be are refused where something was counted, and nothing has changed.
func TestBelowRefuses(t *testing.T) {
	h, counts := histogramOf([]uint64{7, 8})
	for _, x := range []int{math.MinInt, -1, 1001, math.MaxInt} {
		if size, err := h.Below(x); size != 0 || err != api.ErrArg {
			t.Errorf("Below(%d) = %d, %d, want ErrArg", x, size, err)
		}
	}
	if !slices.Equal(h.Counts(), counts) {
		t.Errorf("Counts %v, want %v", h.Counts(), counts)
	}
}

// Ta3: each size's least and greatest number, and their neighbours, count for their size.
func TestSizesAtTheirEdges(t *testing.T) {
	var l []uint64
	for size := range 64 {
		n := uint64(1) << size
		l = append(l, n-1, n, n+1, n|n>>1)
	}
	l = append(l, math.MaxUint64-1, math.MaxUint64)
	for _, n := range l {
		h, want := histogramOf([]uint64{n})
		if got := h.Counts(); !slices.Equal(got, want) {
			t.Errorf("Counts of %d: %v, want size %d", n, got, sizeOf(n))
		}
		for _, x := range []struct{ thousandths, size int }{{0, 0}, {1, sizeOf(n)}, {1000, sizeOf(n)}} {
			if size, err := h.Below(x.thousandths); err != api.OK || size != x.size {
				t.Errorf("Below(%d) of %d = %d, %d, want %d", x.thousandths, n, size, err, x.size)
			}
		}
	}
	h, want := histogramOf(l)
	if got := h.Counts(); !slices.Equal(got, want) {
		t.Errorf("Counts %v, want %v", got, want)
	}
	holdsBelow(t, h, want)
}

// Ta3: the bound is met exactly: of a third, of one in a thousand and of one in 1001.
func TestBelowIsExact(t *testing.T) {
	third, _ := histogramOf([]uint64{0, 9, 9})
	inThousand, inMore := tally.NewHistogram(), tally.NewHistogram()
	inThousand.Count(0)
	inMore.Count(0)
	for range 999 {
		inThousand.Count(math.MaxUint64)
		inMore.Count(math.MaxUint64)
	}
	inMore.Count(math.MaxUint64)
	tests := []struct {
		h                 *tally.Histogram
		thousandths, size int
	}{
		{third, 333, 0}, {third, 334, 4}, {third, 1000, 4},
		{inThousand, 0, 0}, {inThousand, 1, 0}, {inThousand, 2, 64},
		{inMore, 0, 0}, {inMore, 1, 64}, {inMore, 1000, 64},
	}
	for i, x := range tests {
		if size, err := x.h.Below(x.thousandths); err != api.OK || size != x.size {
			t.Errorf("%d: Below(%d) = %d, %d, want %d", i, x.thousandths, size, err, x.size)
		}
	}
}

// Ta3: many kinds of numbers, at all thousandths, held against the promise's words.
func TestBelowAgainstItsWords(t *testing.T) {
	x := uint64(11)
	for round := 1; round < 60; round++ {
		var l []uint64
		for range round * round {
			x = x*6364136223846793005 + 1442695040888963407
			l = append(l, x>>(x>>5&63)>>(round%3))
		}
		h, counts := histogramOf(l)
		if !slices.Equal(h.Counts(), counts) {
			t.Fatalf("Counts %v, want %v", h.Counts(), counts)
		}
		holdsBelow(t, h, counts)
	}
}

// R3, R4: what Counts answers is new memory, and histograms know nothing of one another.
func TestCountsAreNewMemory(t *testing.T) {
	h, want := histogramOf([]uint64{1, 2, 2, 300})
	other := tally.NewHistogram()
	one, two := h.Counts(), h.Counts()
	for i := range one[:cap(one)] {
		one[:cap(one)][i] = 99
	}
	if !slices.Equal(two, want) || !slices.Equal(h.Counts(), want) {
		t.Errorf("behind writing to an answer: %v and %v, want %v", two, h.Counts(), want)
	}
	if _, err := other.Below(1000); err != api.ErrNone {
		t.Errorf("another histogram: error %d, want ErrNone", err)
	}
}

// Words: many goroutines count at one time while others ask; no number is lost, no count falls, and Below always tells a size that may be.
func TestCountsOfManyTakeEffectWhole(t *testing.T) {
	const workers, rounds = 16, 4000
	h := tally.NewHistogram()
	h.Count(3)
	var counters, askers sync.WaitGroup
	stop := make(chan struct{})
	for range 3 {
		askers.Go(func() { askCountsUntil(t, h, stop) })
	}
	for w := range workers {
		counters.Go(func() {
			for i := range rounds {
				h.Count(uint64(i%2) << (w % 4 * 21))
			}
		})
	}
	counters.Wait()
	close(stop)
	askers.Wait()
	want := make([]uint64, 65)
	want[0], want[2] = workers*rounds/2, 1
	for _, size := range []int{1, 22, 43, 64} {
		want[size] = workers / 4 * rounds / 2
	}
	if !slices.Equal(h.Counts(), want) {
		t.Errorf("Counts %v, want %v", h.Counts(), want)
	}
}

func askCountsUntil(t *testing.T, h *tally.Histogram, stop chan struct{}) {
	last := make([]uint64, 65)
	for {
		now := h.Counts()
		for i := range now {
			if now[i] < last[i] {
				t.Errorf("size %d: %d behind %d", i, now[i], last[i])
				return
			}
		}
		last = now
		if size, err := h.Below(1000); err != api.OK || size < 2 || size > 64 {
			t.Errorf("Below(1000) = %d, %d", size, err)
			return
		}
		select {
		case <-stop:
			return
		default:
		}
	}
}
