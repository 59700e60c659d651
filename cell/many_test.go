package cell_test

import (
	"runtime"
	"slices"
	"sync"
	"sync/atomic"
	"testing"

	"vellum/cell"
)

// together runs so many workers at one time, which all begin when the last one is there.
func together(workers int, work func(worker int)) {
	var ready, all sync.WaitGroup
	ready.Add(workers)
	for w := range workers {
		all.Go(func() {
			ready.Done()
			ready.Wait()
			work(w)
		})
	}
	all.Wait()
}

// own is a value that tells who pushed it, and as which of his own.
type own struct {
	worker, turn int
}

// Ce1: many push at one time: each number is given to one value, those that were told true alone lie there, in the order of their numbers.
func TestManyPush(t *testing.T) {
	const turns = 3000
	for _, workers := range []int{2, 8, 64} {
		c := cell.New[own]()
		at := make([][]uint64, workers)
		together(workers, func(w int) {
			for i := range turns {
				for {
					_, number := c.Load()
					if c.Push(number, own{w, i}) {
						at[w] = append(at[w], number+1)
						break
					}
					if _, now := c.Load(); now <= number {
						t.Errorf("Push(%d) = false, and the newest is %d", number, now)
					}
				}
			}
		})
		all := c.All()
		slices.Reverse(all)
		if len(all) != workers*turns {
			t.Fatalf("%d values, want %d", len(all), workers*turns)
		}
		for w, numbers := range at {
			for i, number := range numbers {
				if all[number-1] != (own{w, i}) {
					t.Fatalf("number %d is %v, was given to %v", number, all[number-1], own{w, i})
				}
			}
		}
	}
}

// Ce1: of many that push behind one number just one is told true.
func TestManyPushBehindOne(t *testing.T) {
	const rounds = 5000
	c := cell.New[int]()
	winners := make([]atomic.Int64, rounds)
	together(8, func(w int) {
		for n := range uint64(rounds) {
			if c.Push(n, w) {
				winners[n].Add(int64(w) + 100)
			}
			if _, now := c.Load(); now <= n {
				t.Errorf("behind Push(%d) the newest is %d", n, now)
			}
		}
	})
	all := c.All()
	slices.Reverse(all)
	if len(all) != rounds {
		t.Fatalf("%d values, want %d", len(all), rounds)
	}
	for n := range winners {
		if got := winners[n].Load(); got != int64(all[n])+100 {
			t.Fatalf("number %d is %d's, but those told true make %d", n+1, all[n], got-100)
		}
	}
}

// Ce2: Keep leaves the newest one's number: so who alone pushes is told true each time, however many keep meanwhile, and a Keep is told false only if another one was pushed.
func TestOnePushesManyKeep(t *testing.T) {
	const last = 20000
	c := cell.New[uint64]()
	var over atomic.Bool
	together(8, func(w int) {
		if w == 0 {
			for n := range uint64(last) {
				if !c.Push(n, n+1) {
					t.Errorf("Push(%d) = false, and nobody else pushes", n)
					over.Store(true)
					return
				}
				if n%64 == 0 {
					runtime.Gosched()
				}
			}
			return
		}
		for number := uint64(0); number < last && !over.Load(); {
			var v uint64
			v, number = c.Load()
			if v != number {
				t.Errorf("Load = %d, %d", v, number)
			}
			told := c.Keep(number, w)
			if _, now := c.Load(); !told && now <= number {
				t.Errorf("Keep(%d) = false, and the newest is %d", number, now)
			}
			runtime.Gosched()
		}
	})
	// Each went on till its Keep was that of the last one: so the least of them all is left.
	if all := c.All(); !over.Load() && !slices.Equal(all, []uint64{last}) {
		t.Errorf("All = %v, want %d alone", all, last)
	}
}

// Ce2: many keep at one time, and nobody pushes: all are told true, and the least number stays.
func TestManyKeep(t *testing.T) {
	for range 300 {
		c := cell.New[uint64]()
		for n := range uint64(100) {
			c.Push(n, n+1)
		}
		together(8, func(w int) {
			for n := 99 - w; n > 2; n -= 8 {
				if !c.Keep(100, n) {
					t.Errorf("Keep(100, %d) = false, and nobody pushes", n)
				}
			}
		})
		all := c.All()
		if v, number := c.Load(); v != 100 || number != 100 || len(all) != 3 || !slices.Equal(all, []uint64{100, 99, 98}) {
			t.Fatalf("Load = %d, %d, All = %v", v, number, all)
		}
	}
}

// Ce1, Ce2, Ce4: All is the place at one time, whole: numbers without a hole, from one that Load told ahead or a later one down, and never more than were there; and it stays so.
func TestManyLookWhileOthersPush(t *testing.T) {
	const last = 12000
	c := cell.New[uint64]()
	var told [4][][]uint64
	together(12, func(w int) {
		for range 50 * last { // enough by far, if no number falls back
			_, number := c.Load()
			if number >= last {
				return
			}
			switch {
			case w >= 8:
				l := looked(t, c, number)
				if len(told[w-8]) < 200 {
					told[w-8] = append(told[w-8], l)
				}
			case w == 7:
				c.Keep(number, 50)
			default:
				c.Push(number, number+1)
			}
			runtime.Gosched()
		}
	})
	full(t, c, last)
	for _, lists := range told {
		for _, l := range lists {
			holes(t, l)
		}
	}
}

func looked(t *testing.T, c *cell.Cell[uint64], ahead uint64) []uint64 {
	l := c.All()
	_, behind := c.Load()
	if len(l) == 0 && ahead > 0 {
		t.Errorf("All tells nothing, ahead of it the newest was %d", ahead)
	}
	if len(l) > 0 && (l[0] < ahead || l[0] > behind) {
		t.Errorf("All's newest is %d, Load told %d ahead of it and %d behind it", l[0], ahead, behind)
	}
	holes(t, l)
	return l
}

func holes(t *testing.T, l []uint64) {
	for i := 1; i < len(l); i++ {
		if l[i] != l[i-1]-1 {
			t.Errorf("All: %d stands behind %d", l[i], l[i-1])
			return
		}
	}
}

// Ce1, Ce2: who alone keeps finds, behind a Keep that was told true, at most so many and those pushed since.
func TestOneKeepsManyPush(t *testing.T) {
	const last = 20000
	c := cell.New[uint64]()
	together(8, func(w int) {
		for range 50 * last { // enough by far, if no number falls back
			_, number := c.Load()
			if number >= last {
				return
			}
			if w > 0 {
				c.Push(number, number+1)
			} else if c.Keep(number, 5) && number > 5 {
				if all := c.All(); all[len(all)-1] < number-4 {
					t.Errorf("behind Keep(%d, 5) %d is kept", number, all[len(all)-1])
				}
			}
			runtime.Gosched()
		}
	})
	full(t, c, last)
}

func full(t *testing.T, c *cell.Cell[uint64], last uint64) {
	t.Helper()
	if v, number := c.Load(); v != number || number < last {
		t.Errorf("at the end Load = %d, %d, want at least %d", v, number, last)
	}
}
