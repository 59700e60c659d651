package clock_test

import (
	"runtime"
	"slices"
	"sync"
	"sync/atomic"
	"testing"

	"vellum/api"
	"vellum/clock"
)

// together runs so many workers at one time, which all begin when the last one is there.
func together(workers int, work func(worker int)) {
	var ready, all sync.WaitGroup
	ready.Add(workers)
	for w := range workers {
		all.Go(func() {
			ready.Done()
			ready.Wait()
			work(w)
		})
	}
	all.Wait()
}

// eachOnce holds that the lists rise and have together the numbers behind first up to last, each once.
func eachOnce(t *testing.T, first, last uint64, lists [][]uint64) {
	t.Helper()
	for i, l := range lists {
		for k := 1; k < len(l); k++ {
			if l[k] <= l[k-1] {
				t.Fatalf("list %d does not rise: %d behind %d", i, l[k], l[k-1])
			}
		}
	}
	all := slices.Sorted(slices.Values(slices.Concat(lists...)))
	if uint64(len(all)) != last-first {
		t.Fatalf("%d stamps behind %d up to %d", len(all), first, last)
	}
	for i, stamp := range all {
		if stamp != first+1+uint64(i) {
			t.Fatalf("stamp %d stands where %d should", stamp, first+1+uint64(i))
		}
	}
}

// Cl1, Cl3: many take till the ring is full: just 4096 are let, each stamp once, and Last never goes beyond.
func TestManyTakeTillTheRingIsFull(t *testing.T) {
	for _, first := range []uint64{0, 4095, 1 << 61} {
		c := newClock(t, first)
		lists := make([][]uint64, 16)
		var errs atomic.Int64
		together(len(lists), func(w int) {
			for {
				stamp, err := c.Take()
				if c.Last() > first+4096 {
					t.Errorf("Last %d", c.Last())
				}
				if err != api.OK {
					errs.Add(int64(err))
					return
				}
				lists[w] = append(lists[w], stamp)
			}
		})
		eachOnce(t, first, first+4096, lists)
		if errs.Load() != 16*int64(api.ErrFull) {
			t.Errorf("errors' sum %d, want ErrFull 16 times", errs.Load())
		}
		shows(t, c, first+4096, first, slices.Sorted(slices.Values(slices.Concat(lists...))))
	}
}

// Cl1, Cl3: many take and say Done up to the end of all stamps: each is given once, then all are told ErrEnd.
func TestManyTakeTillTheEnd(t *testing.T) {
	const first = 1<<62 - 20000
	c := newClock(t, first)
	lists := make([][]uint64, 16)
	together(len(lists), func(w int) {
		for {
			stamp, err := c.Take()
			if err == api.ErrFull { // somebody who holds one is not running
				runtime.Gosched()
				continue
			}
			if err != api.OK {
				if err != api.ErrEnd {
					t.Errorf("Take: %d, want ErrEnd", err)
				}
				return
			}
			lists[w] = append(lists[w], stamp)
			if err := c.Done(stamp); err != api.OK {
				t.Errorf("Done(%d) = %d", stamp, err)
			}
		}
	})
	eachOnce(t, first, 1<<62, lists)
	shows(t, c, 1<<62, 1<<62, nil)
}

// worker takes and does stamps as goroutines of a database would, and holds what it is told of the frontier against what it knows itself.
type worker struct {
	t     *testing.T
	c     *clock.Clock
	taken []uint64
	open  []uint64
	seen  uint64
}

func (w *worker) take() {
	stamp, err := w.c.Take()
	for ; err == api.ErrFull; stamp, err = w.c.Take() {
		// The others' stamps alone may hold the ring up: its own must go ahead of them.
		w.doneAll()
		runtime.Gosched()
	}
	if err != api.OK {
		w.t.Errorf("Take: %d", err)
	}
	if stamp <= w.seen {
		w.t.Errorf("Take: %d behind the frontier %d", stamp, w.seen)
	}
	w.taken, w.open = append(w.taken, stamp), append(w.open, stamp)
	w.look()
}

func (w *worker) done(i int) {
	stamp := w.open[i]
	w.open = slices.Delete(w.open, i, i+1)
	if err := w.c.Done(stamp); err != api.OK {
		w.t.Errorf("Done(%d) = %d", stamp, err)
	}
	if err := w.c.Done(stamp); err != api.ErrStamp {
		w.t.Errorf("Done(%d) again = %d", stamp, err)
	}
	w.look()
}

func (w *worker) doneAll() {
	for len(w.open) > 0 {
		w.done(0)
	}
}

func (w *worker) look() {
	f := w.c.Frontier()
	if f < w.seen {
		w.t.Errorf("the frontier fell from %d to %d", w.seen, f)
	}
	if f > w.c.Last() {
		w.t.Errorf("the frontier %d is above Last", f)
	}
	for _, stamp := range w.open {
		if f >= stamp {
			w.t.Errorf("the frontier %d, but %d is open", f, stamp)
		}
	}
	w.seen = f
}

// Cl3: many goroutines take and do stamps in many orders, many times round the ring: no stamp twice, the frontier never falls and is below all that are open, and at the end it is the last one.
func TestManyTakeAndDo(t *testing.T) {
	for _, workers := range []int{2, 8, 64} {
		c := newClock(t, 11)
		lists := make([][]uint64, workers)
		together(workers, func(i int) {
			w, x := &worker{t: t, c: c}, uint64(i)
			for range 60000 / workers {
				w.take()
				x = x*6364136223846793005 + 1442695040888963407
				for len(w.open) > int(x>>40%20) {
					w.done(int(x >> 20 % uint64(len(w.open))))
				}
			}
			w.doneAll()
			lists[i] = w.taken
		})
		last := uint64(11 + 60000/workers*workers)
		eachOnce(t, 11, last, lists)
		shows(t, c, last, last, nil)
	}
}

// Cl1: of many that say Done of one stamp just one is told OK; and behind that all see it at once: who was told ErrStamp finds the frontier gone on.
func TestManySayDoneOfOne(t *testing.T) {
	const rounds = 3 * api.MaxRing
	c := newClock(t, 0)
	var oks atomic.Int64
	together(8, func(w int) {
		for n := uint64(1); n <= rounds; n++ {
			if w == 0 {
				c.Take()
			}
			for c.Last() < n {
				runtime.Gosched()
			}
			if c.Done(n) == api.OK {
				oks.Add(1)
			}
			if f := c.Frontier(); f < n {
				t.Errorf("%d is done, but the frontier is %d", n, f)
			}
		}
	})
	if oks.Load() != rounds {
		t.Errorf("%d times OK, want %d", oks.Load(), rounds)
	}
	shows(t, c, rounds, rounds, nil)
}

// Cl1, Words: while others take and do, what Open tells was all that was open at some time: here stamps without a hole between them, either 20 or 21; and the frontier, asked behind it, is not below what it showed.
func TestOpenIsOfOneTime(t *testing.T) {
	c := newClock(t, 0)
	for range 20 {
		c.Take()
	}
	stop := make(chan struct{})
	var writer sync.WaitGroup
	writer.Go(func() {
		for n := uint64(1); ; n++ {
			select {
			case <-stop:
				return
			default:
			}
			c.Take()
			c.Done(n)
			if n%64 == 0 {
				runtime.Gosched()
			}
		}
	})
	together(3, func(int) {
		for range 20000 {
			open := c.Open()
			f := c.Frontier()
			if len(open) < 20 || len(open) > 21 || open[len(open)-1]-open[0] != uint64(len(open)-1) {
				t.Errorf("Open = %v", open)
				return
			}
			if f < open[0]-1 {
				t.Errorf("the frontier %d behind Open = %v", f, open)
				return
			}
		}
	})
	close(stop)
	writer.Wait()
}

// Cl1: who finds by Open that no stamp is below some one finds the frontier there: others that did them may not have asked for it yet.
func TestFrontierAgreesWithOpen(t *testing.T) {
	for range 300 {
		c := newClock(t, 0)
		for range 64 {
			c.Take()
		}
		together(4, func(w int) {
			if w < 2 {
				for n := 64 - w; n >= 1; n -= 2 {
					c.Done(uint64(n))
				}
				return
			}
			for f := uint64(0); f < 64; runtime.Gosched() {
				open := c.Open()
				f = c.Frontier()
				if len(open) == 0 && f != 64 || len(open) > 0 && f < open[0]-1 {
					t.Errorf("the frontier %d behind Open = %v", f, open)
					return
				}
			}
		})
	}
}

// Cl1, Words: the same where nothing is taken: stamps are done from both ends, by turns, so that as many are at all times, or one more at the lower end.
func TestOpenIsOfOneTimeFromBothEnds(t *testing.T) {
	for range 40 {
		c := newClock(t, 0)
		for range api.MaxRing {
			c.Take()
		}
		together(3, func(w int) {
			if w == 0 {
				for n := uint64(1); n < api.MaxRing/2; n++ {
					c.Done(n)
					c.Done(api.MaxRing + 1 - n)
				}
				return
			}
			for len(c.Open()) > 2 {
				open := c.Open()
				low, high := open[0]-1, api.MaxRing-open[len(open)-1]
				if uint64(len(open)) != api.MaxRing-low-high || low != high && low != high+1 {
					t.Errorf("%d stamps open from %d to %d", len(open), open[0], open[len(open)-1])
					return
				}
				runtime.Gosched()
			}
		})
	}
}
