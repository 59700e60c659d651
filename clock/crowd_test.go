package clock_test

import (
	"math"
	"runtime"
	"slices"
	"testing"
	"time"

	"vellum/api"
	"vellum/clock"
)

// crowd is a Crowd that must be let, and holds what Cl2 and Cl4 say of all crowds.
func crowd(t *testing.T, last uint64, takes, lags []int) []api.Stamps {
	t.Helper()
	told, frontier, err := clock.Crowd(last, takes, lags)
	if err != api.OK || len(told) != len(takes) {
		t.Fatalf("Crowd(%d, %v, %v): %d lists, error %d", last, takes, lags, len(told), err)
	}
	sum := uint64(0)
	lists := make([][]uint64, len(told))
	for i, s := range told {
		if len(s.Taken) != takes[i] || len(s.Done) != takes[i] {
			t.Fatalf("Crowd(%d, %v, %v): list %d has %d and %d stamps", last, takes, lags, i, len(s.Taken), len(s.Done))
		}
		sum += uint64(takes[i])
		lists[i] = s.Taken
	}
	eachOnce(t, last, last+sum, lists)
	if frontier != last+sum {
		t.Fatalf("Crowd(%d, %v, %v): the frontier %d, want %d", last, takes, lags, frontier, last+sum)
	}
	for _, s := range told {
		holdFrontiers(t, last, frontier, s)
	}
	for i := range told {
		holdLags(t, last, told, lags, i)
	}
	return told
}

// holdFrontiers holds a goroutine's frontiers against its own stamps, by Cl4: they do not fall, lie at or above the own ones that were done without a hole, and below its open ones (and those that it took later).
func holdFrontiers(t *testing.T, last, end uint64, s api.Stamps) {
	t.Helper()
	was, least := last, last
	for i, f := range s.Done {
		if s.Taken[i] == least+1 {
			least++
		}
		if f < was || f < least || f > end {
			t.Fatalf("frontier %d of %v (%v): behind %d, at least %d, at most %d", i, s.Done, s.Taken, was, least, end)
		}
		if i+1 < len(s.Taken) && f >= s.Taken[i+1] {
			t.Fatalf("frontier %d of %v (%v): one that is open is not above it", i, s.Done, s.Taken)
		}
		was = f
	}
}

// holdLags holds one goroutine's frontiers against all others' stamps: a stamp is done behind its goroutine's lag-th Take behind it, and ahead of the next one; and stamps are in the order in which they were taken.
func holdLags(t *testing.T, last uint64, told []api.Stamps, lags []int, own int) {
	t.Helper()
	behind, ahead := dones(last, told, lags)
	s, sure, seen := told[own], last, last
	mine := map[uint64]int{}
	for i, stamp := range s.Taken {
		mine[stamp] = i
	}
	for i, f := range s.Done {
		latest := s.Taken[min(lags[own], len(s.Taken)-1-i)+i]
		for sure < last+uint64(len(ahead)) {
			k, is := mine[sure+1]
			if is && k > i || !is && ahead[sure-last] >= latest {
				break
			}
			sure++
		}
		if f < sure {
			t.Fatalf("goroutine %d: the frontier %d behind its Done(%d), but all up to %d are done: %v, %v", own, f, s.Taken[i], sure, told, lags)
		}
		if lags[own] >= len(s.Taken)-1-i {
			continue
		}
		for ; seen < f; seen++ {
			if next := s.Taken[i+1+lags[own]]; behind[seen-last] > next {
				t.Fatalf("goroutine %d: the frontier %d ahead of its taking %d, but %d is done behind %d: %v, %v", own, f, next, seen+1, behind[seen-last], told, lags)
			}
		}
	}
}

// dones is, for each stamp, the one behind whose taking it is done, and the one ahead of whose taking it is (a very great one where there is none).
func dones(last uint64, told []api.Stamps, lags []int) (behind, ahead []uint64) {
	sum := 0
	for _, s := range told {
		sum += len(s.Taken)
	}
	behind, ahead = make([]uint64, sum), make([]uint64, sum)
	for g, s := range told {
		for i, stamp := range s.Taken {
			left := len(s.Taken) - 1 - i
			behind[stamp-last-1] = s.Taken[i+min(lags[g], left)]
			ahead[stamp-last-1] = math.MaxUint64
			if lags[g] < left {
				ahead[stamp-last-1] = s.Taken[i+lags[g]+1]
			}
		}
	}
	return behind, ahead
}

// Cl2: the chapter's third example.
func TestCrowdExample(t *testing.T) {
	told := crowd(t, 0, []int{2}, []int{1})
	if !slices.Equal(told[0].Taken, []uint64{1, 2}) || !slices.Equal(told[0].Done, []uint64{1, 2}) {
		t.Errorf("Crowd = %v, want 1 2 and 1 2", told)
	}
}

// Cl2: a crowd of one is told what one caller is told: its frontier behind each Done is the stamp that is done.
func TestCrowdOfOne(t *testing.T) {
	for _, last := range []uint64{0, 7, 4094, 1 << 50, 1<<62 - 40} {
		for takes := range 41 {
			for _, lag := range []int{0, 1, 2, 3, 39, 40, 41, 4096, math.MaxInt - 1, math.MaxInt} {
				want := make([]uint64, takes)
				for i := range want {
					want[i] = last + 1 + uint64(i)
				}
				told := crowd(t, last, []int{takes}, []int{lag})
				if !slices.Equal(told[0].Taken, want) || !slices.Equal(told[0].Done, want) {
					t.Fatalf("Crowd(%d, %d, %d) = %v, want %v twice", last, takes, lag, told[0], want)
				}
			}
		}
	}
}

// Cl2, R2: each error alone, and of several the one that is named first, with zero values beside it.
func TestCrowdRefuses(t *testing.T) {
	many, some := make([]int, 65), []int{1, 2}
	const end = 1 << 62
	tests := []struct {
		last        uint64
		takes, lags []int
		want        api.Errno
	}{
		{0, many, many, api.ErrArg},
		{0, many, many[:64], api.ErrArg},
		{0, many[:64], many, api.ErrArg},
		{0, make([]int, 1000), make([]int, 1000), api.ErrArg},
		{0, some, []int{1}, api.ErrArg},
		{0, []int{1}, some, api.ErrArg},
		{0, nil, some, api.ErrArg},
		{0, some, nil, api.ErrArg},
		{0, []int{-1}, []int{0}, api.ErrArg},
		{0, []int{0}, []int{-1}, api.ErrArg},
		{0, []int{1, 2, math.MinInt}, []int{0, 0, 0}, api.ErrArg},
		{0, []int{1, 2, 3}, []int{0, 0, math.MinInt}, api.ErrArg},
		{end + 1, some, some, api.ErrArg},
		{end + 1, nil, nil, api.ErrArg},
		{math.MaxUint64, some, some, api.ErrArg},
		{0, []int{4097}, []int{0}, api.ErrFull},
		{0, []int{4096, 1}, []int{0, 0}, api.ErrFull},
		{0, []int{1, 4096}, []int{0, 0}, api.ErrFull},
		{0, []int{2048, 2048, 0, 1}, []int{0, 0, 0, 0}, api.ErrFull},
		{0, []int{math.MaxInt}, []int{0}, api.ErrFull},
		{0, []int{math.MaxInt, math.MaxInt, 2}, []int{0, 0, 0}, api.ErrFull},
		{0, []int{math.MaxInt, math.MaxInt, math.MaxInt, math.MaxInt, 4}, []int{0, 0, 0, 0, 0}, api.ErrFull},
		{end, []int{1}, []int{0}, api.ErrEnd},
		{end - 4, []int{2, 3}, []int{0, 9}, api.ErrEnd},
		{end - 4095, []int{4096}, []int{0}, api.ErrEnd},
		{end, []int{4096}, []int{0}, api.ErrEnd},
		{end, []int{4097}, []int{0}, api.ErrFull},
		{end, []int{4097, -1}, []int{0, 0}, api.ErrArg},
		{end, []int{4097, 0}, []int{0, -1}, api.ErrArg},
		{end, []int{4097, 0}, []int{0}, api.ErrArg},
		{end + 1, []int{4097}, []int{0}, api.ErrArg},
		{end, []int{1, -1}, []int{0, 0}, api.ErrArg},
	}
	for _, x := range tests {
		told, frontier, err := clock.Crowd(x.last, x.takes, x.lags)
		if err != x.want || frontier != 0 || len(told) != 0 {
			t.Errorf("Crowd(%d, %v, %v) = %d lists, %d, %d, want error %d alone", x.last, x.takes, x.lags, len(told), frontier, err, x.want)
		}
	}
}

// Cl2: the limits themselves are let: 64 goroutines, 4096 stamps in all, up to the last stamp.
func TestCrowdAtItsLimits(t *testing.T) {
	for _, last := range []uint64{0, 1, 4095, 4096, 1 << 60, 1<<62 - 4096} {
		crowd(t, last, []int{4096}, []int{4096})
		crowd(t, last, []int{0, 4095, 1}, []int{math.MaxInt, 5, math.MaxInt})
		takes, lags := make([]int, 64), make([]int, 64)
		for i := range takes {
			takes[i], lags[i] = 64, i*3
		}
		crowd(t, last, takes, lags)
	}
	crowd(t, 1<<62, []int{0, 0}, []int{0, 7})
}

// Cl2: a crowd of nobody, or of goroutines that take nothing, ends with the frontier where it began.
func TestCrowdThatTakesNothing(t *testing.T) {
	for _, last := range []uint64{0, 9, 1 << 62} {
		for n := range 4 {
			for i, s := range crowd(t, last, make([]int, n), make([]int, n)) {
				if len(s.Taken) != 0 || len(s.Done) != 0 {
					t.Errorf("goroutine %d that takes nothing was told %v", i, s)
				}
			}
		}
		crowd(t, last, nil, []int{})
	}
}

// Cl4: crowds of many sizes and lags, again and again.
func TestCrowdsOfAllKinds(t *testing.T) {
	x := uint64(3)
	for round := range 400 {
		takes, lags := make([]int, 1+round%64), make([]int, 1+round%64)
		for i := range takes {
			x = x*6364136223846793005 + 1442695040888963407
			takes[i], lags[i] = int(x>>40)%(4096/len(takes)), int(x>>20)%30
			if x>>62 == 0 {
				lags[i] = 0
			}
		}
		crowd(t, x>>3, takes, lags)
	}
}

// Cl2: a goroutine says Done as late as its lag, and no later: what others are told of the frontier shows it.
func TestCrowdsKeepTheirLags(t *testing.T) {
	for range 60 {
		crowd(t, 100, []int{300, 300}, []int{300, 0})
		crowd(t, 100, []int{300, 300}, []int{10, 0})
		crowd(t, 100, []int{300, 300, 300}, []int{1, 1, 0})
		crowd(t, 100, []int{200, 200, 200, 200}, []int{0, 1, 2, 3})
	}
}

// Cl2: the goroutines of a crowd work side by side: sooner or later the stamps of two mingle.
func TestCrowdsMingle(t *testing.T) {
	if runtime.GOMAXPROCS(0) == 1 {
		t.Skip("with one processor goroutines may run one behind the other")
	}
	for range 2000 {
		told := crowd(t, 0, []int{2048, 2048}, []int{1, 1})
		for _, s := range told {
			if last := len(s.Taken) - 1; s.Taken[last]-s.Taken[0] != uint64(last) {
				return
			}
		}
	}
	t.Error("stamps of 2000 crowds never mingled")
}

// R4: a crowd begins behind its own stamp, whatever other crowds did.
func TestCrowdsAreApart(t *testing.T) {
	for range 5 {
		crowd(t, 3, []int{5, 6}, []int{0, 2})
	}
}

// R3: takes and lags, and the room behind their ends, are not changed; what is told is new memory, no two lists of it share any, spare room neither.
func TestCrowdSharesNothing(t *testing.T) {
	takes, lags := []int{3, 0, 4, 77, 78}, []int{1, 2, 0, 87, 88}
	keptTakes, keptLags := slices.Clone(takes), slices.Clone(lags)
	told := crowd(t, 5, takes[:3], lags[:3])
	if !slices.Equal(takes, keptTakes) || !slices.Equal(lags, keptLags) {
		t.Errorf("behind Crowd: %v, %v", takes, lags)
	}
	var lists, kept [][]uint64
	for _, s := range told {
		lists = append(lists, s.Taken, s.Done)
		kept = append(kept, slices.Clone(s.Taken), slices.Clone(s.Done))
	}
	for i, l := range lists {
		for k := range l[:cap(l)] {
			l[:cap(l)][k] = 1 << 63
		}
		for k := i + 1; k < len(lists); k++ {
			if !slices.Equal(lists[k], kept[k]) {
				t.Fatalf("lists %d and %d share memory", i, k)
			}
		}
	}
}

// Cl2, Ways: when a crowd answers, all its goroutines have ended.
func TestCrowdLeavesNoGoroutine(t *testing.T) {
	was := runtime.NumGoroutine()
	takes := make([]int, api.MaxCrowd)
	for i := range takes {
		takes[i] = i
	}
	for range 20 {
		crowd(t, 0, takes, takes)
	}
	// A goroutine that is done is counted until it is off its stack: so it may take a moment.
	for range 1000 {
		if runtime.NumGoroutine() <= was {
			return
		}
		time.Sleep(time.Millisecond)
	}
	t.Errorf("%d goroutines, were %d", runtime.NumGoroutine(), was)
}
