package tally_test

import (
	"math"
	"runtime"
	"slices"
	"testing"
	"time"

	"vellum/api"
	"vellum/tally"
)

// sumOf is what a crowd's lists come to, added one behind the other.
func sumOf(l [][]api.Add) int64 {
	var sum int64
	for _, adds := range l {
		for _, a := range adds {
			sum += a.N
		}
	}
	return sum
}

// rises holds that what was seen never falls and lies from 0 to the sum.
func rises(t *testing.T, seen []int64, sum int64) {
	t.Helper()
	last := int64(0)
	for i, n := range seen {
		if n < last || n > sum {
			t.Fatalf("look %d: %d behind %d, of %d in all", i, n, last, sum)
		}
		last = n
	}
}

// crowd is a Crowd that must be let.
func crowd(t *testing.T, shards int, l [][]api.Add, looks int) (int64, []int64) {
	t.Helper()
	sum, seen, err := tally.Crowd(shards, l, looks)
	if err != api.OK || len(seen) != looks {
		t.Fatalf("Crowd(%d, %d lists, %d): %d looks, error %d", shards, len(l), looks, len(seen), err)
	}
	return sum, seen
}

// Ta2: the chapter's example.
func TestCrowdExample(t *testing.T) {
	l := [][]api.Add{{{Shard: 0, N: 1}, {Shard: 1, N: 2}, {Shard: 2, N: 3}}, {{Shard: 3, N: 4}}}
	sum, seen := crowd(t, 4, l, 2)
	if sum != 10 {
		t.Errorf("Sum %d, want 10", sum)
	}
	rises(t, seen, sum)
}

// Ta2, R2: each error alone, and of several the one that is named first, with zero values beside it.
func TestCrowdRefuses(t *testing.T) {
	some := [][]api.Add{{{Shard: 1, N: 1}}}
	tooMany := make([][]api.Add, api.MaxCrowd+1)
	tests := []struct {
		shards int
		l      [][]api.Add
		looks  int
		want   api.Errno
	}{
		{0, some, 1, api.ErrArg},
		{-1, some, 1, api.ErrArg},
		{math.MinInt, some, 1, api.ErrArg},
		{api.MaxShards + 1, some, 1, api.ErrArg},
		{math.MaxInt, some, 1, api.ErrArg},
		{1, tooMany, 1, api.ErrFull},
		{api.MaxShards, make([][]api.Add, 1000), 0, api.ErrFull},
		{1, some, -1, api.ErrArg},
		{1, some, math.MinInt, api.ErrArg},
		{1, some, api.MaxOps + 1, api.ErrArg},
		{1, some, math.MaxInt, api.ErrArg},
		{0, tooMany, 1, api.ErrArg},
		{65, tooMany, -1, api.ErrArg},
		{1, tooMany, -1, api.ErrFull},
		{1, tooMany, api.MaxOps + 1, api.ErrFull},
		{0, nil, -1, api.ErrArg},
	}
	for _, x := range tests {
		sum, seen, err := tally.Crowd(x.shards, x.l, x.looks)
		if err != x.want || sum != 0 || len(seen) != 0 {
			t.Errorf("Crowd(%d, %d lists, %d) = %d, %d looks, %d, want error %d alone", x.shards, len(x.l), x.looks, sum, len(seen), err, x.want)
		}
	}
}

// Ta2: the limits themselves are let: 1 and 64 shards, 64 lists, 0 and 65536 looks.
func TestCrowdAtItsLimits(t *testing.T) {
	for _, shards := range []int{1, api.MaxShards} {
		for _, looks := range []int{0, 1, api.MaxOps} {
			l := make([][]api.Add, api.MaxCrowd)
			for i := range l {
				for k := range 100 {
					l[i] = append(l[i], api.Add{Shard: i * k, N: int64(k)})
				}
			}
			sum, seen := crowd(t, shards, l, looks)
			if sum != api.MaxCrowd*99*50 {
				t.Errorf("%d shards, %d looks: Sum %d, want %d", shards, looks, sum, api.MaxCrowd*99*50)
			}
			rises(t, seen, sum)
		}
	}
}

// Ta2: a list may be longer than any limit of the others; nil and empty lists add nothing.
func TestCrowdOfLongAndEmptyLists(t *testing.T) {
	long := make([]api.Add, api.MaxOps+10)
	for i := range long {
		long[i] = api.Add{Shard: -i, N: 2}
	}
	sum, seen := crowd(t, 3, [][]api.Add{nil, long, {}}, 50)
	if sum != 2*int64(len(long)) {
		t.Errorf("Sum %d, want %d", sum, 2*len(long))
	}
	rises(t, seen, sum)
	for _, l := range [][][]api.Add{nil, {}, {nil}, {{}, {}}} {
		if sum, seen := crowd(t, 5, l, 3); sum != 0 || !slices.Equal(seen, []int64{0, 0, 0}) {
			t.Errorf("Crowd of %v = %d, %v, want noughts", l, sum, seen)
		}
	}
}

// Ta2: numbers of both signs, and sums that wrap: the Sum is the sum of all, though what is seen is free.
func TestCrowdOfAllNumbers(t *testing.T) {
	edges := []int64{math.MinInt64, math.MinInt64 + 1, -1, 0, 1, math.MaxInt64 - 1, math.MaxInt64}
	x := uint64(5)
	for round := range 40 {
		l := make([][]api.Add, 1+round%9)
		for i := range l {
			for range round * 3 {
				x = x*6364136223846793005 + 1442695040888963407
				n := edges[(x>>40)%uint64(len(edges))]
				if x>>63 == 0 {
					n = int64(x >> 20)
				}
				l[i] = append(l[i], api.Add{Shard: int(x), N: n})
			}
		}
		if sum, _ := crowd(t, 1+round%64, l, round); sum != sumOf(l) {
			t.Errorf("round %d: Sum %d, want %d", round, sum, sumOf(l))
		}
	}
}

// Ta2: numbers not below 0 whose sum is just 2^63 - 1: what is seen never falls, and nothing wraps.
func TestCrowdUpToTheGreatestSum(t *testing.T) {
	for range 20 {
		const lists, each = 7, 600
		l := make([][]api.Add, lists)
		left := int64(math.MaxInt64)
		for i := range l {
			for k := range each {
				n := int64(math.MaxInt64) / (lists * each)
				if i == 0 && k == each/2 {
					n = 0
				}
				left -= n
				l[i] = append(l[i], api.Add{Shard: i + k, N: n})
			}
		}
		l[3] = append(l[3], api.Add{Shard: 2, N: left})
		sum, seen := crowd(t, 6, l, 3000)
		if sum != math.MaxInt64 {
			t.Fatalf("Sum %d, want the greatest", sum)
		}
		rises(t, seen, sum)
	}
}

// Ta2: many goroutines on one shard lose nothing, again and again.
func TestCrowdLosesNothing(t *testing.T) {
	l := make([][]api.Add, 32)
	for i := range l {
		l[i] = make([]api.Add, 2000)
		for k := range l[i] {
			l[i][k].N = int64(i + 1)
		}
	}
	for range 10 {
		sum, seen := crowd(t, 1, l, 500)
		if sum != sumOf(l) {
			t.Fatalf("Sum %d, want %d", sum, sumOf(l))
		}
		rises(t, seen, sum)
	}
}

// R4: a crowd begins with noughts, whatever other crowds did.
func TestCrowdsAreApart(t *testing.T) {
	l := [][]api.Add{{{Shard: 0, N: 5}}, {{Shard: 1, N: 6}}}
	for range 5 {
		if sum, seen := crowd(t, 2, l, 1); sum != 11 || seen[0] < 0 || seen[0] > 11 {
			t.Fatalf("Crowd = %d, %v, want 11", sum, seen)
		}
	}
}

// R3: lists, and the room behind their ends, are not changed; what was seen is new memory.
func TestCrowdLeavesItsLists(t *testing.T) {
	room := []api.Add{{Shard: 1, N: 2}, {Shard: 3, N: 4}, {Shard: 5, N: 6}, {Shard: 7, N: 8}}
	kept := slices.Clone(room)
	lists := [][]api.Add{room[:2], room[2:3], {{Shard: 9, N: 9}}}
	one, seenOne := crowd(t, 4, lists[:2], 4)
	two, seenTwo := crowd(t, 4, lists[:2], 4)
	if one != 12 || two != 12 || !slices.Equal(room, kept) || len(lists[2]) != 1 || lists[2][0] != (api.Add{Shard: 9, N: 9}) {
		t.Errorf("Crowd = %d and %d; lists %v, %v", one, two, room, lists[2])
	}
	was := slices.Clone(seenTwo)
	for i := range seenOne[:cap(seenOne)] {
		seenOne[:cap(seenOne)][i] = -1
	}
	if !slices.Equal(seenTwo, was) {
		t.Errorf("two answers share memory: %v, was %v", seenTwo, was)
	}
}

// Ta2, Ways: when a crowd answers, all its goroutines have ended.
func TestCrowdLeavesNoGoroutine(t *testing.T) {
	was := runtime.NumGoroutine()
	l := make([][]api.Add, api.MaxCrowd)
	for i := range l {
		l[i] = make([]api.Add, 100)
	}
	for range 20 {
		crowd(t, 4, l, 100)
	}
	// A goroutine that is done is counted until it is off its stack: so it may take a moment.
	for range 1000 {
		if runtime.NumGoroutine() <= was {
			return
		}
		time.Sleep(time.Millisecond)
	}
	t.Errorf("%d goroutines, were %d", runtime.NumGoroutine(), was)
}
