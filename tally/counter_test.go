package tally_test

import (
	"math"
	"slices"
	"sync"
	"testing"

	"vellum/api"
	"vellum/tally"
)

func newCounter(t *testing.T, shards int) *tally.Counter {
	t.Helper()
	c, err := tally.New(shards)
	if err != api.OK || c == nil {
		t.Fatalf("New(%d) = %v, %d, want a counter", shards, c, err)
	}
	return c
}

// shardOf is a shard's number worked out by steps: around the ring of shards, for numbers that lie near 0.
func shardOf(number, shards int) int {
	for number < 0 {
		number += shards
	}
	for number >= shards {
		number -= shards
	}
	return number
}

// Ta1, R2: New refuses what is not 1 to 64, with no counter beside the error.
func TestNewRefuses(t *testing.T) {
	for _, n := range []int{math.MinInt, -64, -1, 0, api.MaxShards + 1, 1 << 16, math.MaxInt} {
		if c, err := tally.New(n); err != api.ErrArg || c != nil {
			t.Errorf("New(%d) = %v, %d, want nil, ErrArg", n, c, err)
		}
	}
}

// Ta1: a counter of each number of shards begins with 0 in all of them.
func TestNewBeginsWithNoughts(t *testing.T) {
	for n := 1; n <= api.MaxShards; n++ {
		c := newCounter(t, n)
		if l := c.Shards(); !slices.Equal(l, make([]int64, n)) || c.Sum() != 0 {
			t.Errorf("New(%d): Sum %d, Shards %v, want noughts", n, c.Sum(), l)
		}
	}
}

// Ta1: the chapter's example.
func TestCounterExample(t *testing.T) {
	c := newCounter(t, 2)
	c.Add(0, 5)
	c.Add(1, 7)
	c.Add(-1, 1)
	if s, l := c.Sum(), c.Shards(); s != 13 || !slices.Equal(l, []int64{5, 8}) {
		t.Errorf("Sum %d, Shards %v, want 13, [5 8]", s, l)
	}
}

// Ta1, Words: any int is a shard's number, its rest from 0 on; only that shard is added to.
func TestAddFindsTheShard(t *testing.T) {
	for shards := 1; shards <= api.MaxShards; shards++ {
		for number := -3 * shards; number <= 3*shards; number++ {
			c := newCounter(t, shards)
			c.Add(number, 9)
			want := make([]int64, shards)
			want[shardOf(number, shards)] = 9
			if l := c.Shards(); !slices.Equal(l, want) {
				t.Fatalf("Add(%d, 9) of %d shards: %v, want %v", number, shards, l, want)
			}
		}
	}
}

// Ta1, R1: the greatest and the least shard numbers. (2^63 is 0 by 64, 2 by 3 and 1 by 7.)
func TestAddAtTheEdgesOfInts(t *testing.T) {
	tests := []struct{ shards, number, want int }{
		{1, math.MinInt64, 0}, {1, math.MaxInt64, 0},
		{2, math.MinInt64, 0}, {2, math.MaxInt64, 1},
		{3, math.MinInt64, 1}, {3, math.MaxInt64, 1},
		{7, math.MinInt64, 6}, {7, math.MaxInt64, 0},
		{64, math.MinInt64, 0}, {64, math.MaxInt64, 63}, {64, math.MinInt64 + 1, 1},
	}
	for _, x := range tests {
		c := newCounter(t, x.shards)
		c.Add(x.number, 1)
		want := make([]int64, x.shards)
		want[x.want] = 1
		if l := c.Shards(); !slices.Equal(l, want) {
			t.Errorf("Add(%d, 1) of %d shards: %v, want 1 in shard %d", x.number, x.shards, l, x.want)
		}
	}
}

// Ta1, Words: sums wrap as Go's do, in one shard and over several; what was wrapped comes back.
func TestSumsWrap(t *testing.T) {
	c := newCounter(t, 2)
	c.Add(0, math.MaxInt64)
	c.Add(0, 1)
	if l := c.Shards(); c.Sum() != math.MinInt64 || !slices.Equal(l, []int64{math.MinInt64, 0}) {
		t.Errorf("the greatest and 1: Sum %d, Shards %v", c.Sum(), l)
	}
	c.Add(1, math.MinInt64)
	if l := c.Shards(); c.Sum() != 0 || !slices.Equal(l, []int64{math.MinInt64, math.MinInt64}) {
		t.Errorf("the least twice: Sum %d, Shards %v", c.Sum(), l)
	}
	c.Add(1, -1)
	if l := c.Shards(); c.Sum() != -1 || !slices.Equal(l, []int64{math.MinInt64, math.MaxInt64}) {
		t.Errorf("and -1: Sum %d, Shards %v", c.Sum(), l)
	}
}

// Ta1: a long run of numbers of both signs, held against plain numbers at every step.
func TestAddsAgainstPlainNumbers(t *testing.T) {
	for _, shards := range []int{1, 2, 3, 5, 63, 64} {
		c, want, sum := newCounter(t, shards), make([]int64, shards), int64(0)
		x := uint64(shards)
		for range 3000 {
			x = x*6364136223846793005 + 1442695040888963407
			number, n := int(x>>40)%1000-500, int64(x>>1)-int64(x<<1)
			c.Add(number, n)
			want[shardOf(number, shards)] += n
			sum += n
			if c.Sum() != sum || !slices.Equal(c.Shards(), want) {
				t.Fatalf("%d shards, Add(%d, %d): Sum %d, Shards %v, want %d, %v", shards, number, n, c.Sum(), c.Shards(), sum, want)
			}
		}
	}
}

// R4: counters know nothing of one another.
func TestCountersAreApart(t *testing.T) {
	a, b := newCounter(t, 3), newCounter(t, 3)
	a.Add(1, 4)
	b.Add(2, 5)
	if !slices.Equal(a.Shards(), []int64{0, 4, 0}) || !slices.Equal(b.Shards(), []int64{0, 0, 5}) {
		t.Errorf("Shards %v and %v, want [0 4 0] and [0 0 5]", a.Shards(), b.Shards())
	}
}

// R3: what Shards answers is new memory, its spare room too: no answer shares with the counter or with another one.
func TestShardsAreNewMemory(t *testing.T) {
	c := newCounter(t, 4)
	c.Add(2, 7)
	one, two := c.Shards(), c.Shards()
	for i := range one[:cap(one)] {
		one[:cap(one)][i] = -1
	}
	if want := []int64{0, 0, 7, 0}; !slices.Equal(two, want) || !slices.Equal(c.Shards(), want) || c.Sum() != 7 {
		t.Errorf("behind writing to an answer: %v, %v, Sum %d", two, c.Shards(), c.Sum())
	}
}

// R2: asking changes nothing that a later call could tell.
func TestAskingChangesNothing(t *testing.T) {
	c := newCounter(t, 2)
	c.Add(1, 3)
	for range 3 {
		if c.Sum() != 3 || !slices.Equal(c.Shards(), []int64{0, 3}) {
			t.Fatalf("Sum %d, Shards %v, want 3, [0 3]", c.Sum(), c.Shards())
		}
	}
}

// Words: many goroutines add to one shard and to unlike ones at one time, and no adding is lost.
func TestAddsOfManyTakeEffectWhole(t *testing.T) {
	const workers, rounds = 16, 5000
	for _, shards := range []int{1, 2, 16} {
		c := newCounter(t, shards)
		want := make([]int64, shards)
		var all sync.WaitGroup
		for w := range workers {
			want[w%shards] += rounds * int64(w+1)
			all.Go(func() {
				for range rounds {
					c.Add(w, int64(w+1))
				}
			})
		}
		all.Wait()
		if l := c.Shards(); !slices.Equal(l, want) || c.Sum() != rounds*workers*(workers+1)/2 {
			t.Errorf("%d shards: Sum %d, Shards %v, want %v", shards, c.Sum(), l, want)
		}
	}
}

// Words: Sum and Shards may be asked while others add; where all numbers are above 0, nothing that is told falls.
func TestAskingWhileOthersAdd(t *testing.T) {
	c := newCounter(t, 8)
	var adders, askers sync.WaitGroup
	stop := make(chan struct{})
	for range 4 {
		askers.Go(func() { askUntil(t, c, stop) })
	}
	for w := range 8 {
		adders.Go(func() {
			for i := range 4000 {
				c.Add(i+w, 1)
			}
		})
	}
	adders.Wait()
	close(stop)
	askers.Wait()
	if c.Sum() != 8*4000 {
		t.Errorf("Sum %d, want %d", c.Sum(), 8*4000)
	}
}

func askUntil(t *testing.T, c *tally.Counter, stop chan struct{}) {
	last, parts := int64(0), make([]int64, 8)
	for {
		now, l := c.Sum(), c.Shards()
		if now < last || len(l) != len(parts) {
			t.Errorf("Sum %d behind %d, Shards %v", now, last, l)
			return
		}
		for i := range l {
			if l[i] < parts[i] {
				t.Errorf("Shards %v behind %v", l, parts)
				return
			}
		}
		last, parts = now, l
		select {
		case <-stop:
			return
		default:
		}
	}
}
