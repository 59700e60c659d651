package guard_test

import (
	"sync"
	"sync/atomic"
	"testing"

	"vellum/api"
	"vellum/guard"
)

// together lets so many goroutines do something side by side, and waits for all.
func together(n int, do func(i int)) {
	var ready, every sync.WaitGroup
	ready.Add(n)
	for i := range n {
		every.Go(func() {
			ready.Done()
			ready.Wait()
			do(i)
		})
	}
	every.Wait()
}

// Gu4: of many that would write rows that are the same one alone does, whether the others are told that it is there or that it may come.
func TestOneOfManyIsUnique(t *testing.T) {
	for _, level := range levels() {
		for turn := range 100 {
			g := examples(t)
			var won atomic.Int64
			together(8, func(i int) {
				x, _ := g.DB().Begin(level)
				b, err := g.Insert(x, 0, row(i, 5))
				switch {
				case err == api.OK:
					won.Add(1)
					if turn%2 == 0 {
						g.DB().Commit(x)
					}
				case err != api.ErrUnique && err != api.ErrBusy || b.Kind != api.BrokenUnique:
					t.Errorf("Insert: %v, error %d", b, err)
				}
			})
			wants(t, "how many are there", won.Load(), 1)
			nothingBroken(t, g)
		}
	}
}

// Gu4: one lets rows come that refer, others let go what they refer to, and each commits or aborts at any time.
func TestReferencesSideBySide(t *testing.T) {
	for _, level := range levels() {
		g := examples(t)
		filled(t, g, 0, row(0, nil), row(1, nil), row(2, nil))
		var wrote atomic.Int64
		together(9, func(i int) {
			c := &chance{uint64(i)}
			for range 300 {
				x, _ := g.DB().Begin(level)
				for range 1 + c.below(2) {
					var got told
					switch k := c.below(3); i % 3 {
					case 0:
						got = guarded(g, c.below(2), x, 1, row(c.below(4)), row(c.below(4), k))
					case 1:
						got = guarded(g, 2, x, c.below(2), row(k), nil)
					default:
						got = guarded(g, c.below(2), x, 0, row(k), row(c.below(3), nil))
					}
					if got == ok {
						wrote.Add(1)
					}
					if !allowed(level, got) {
						t.Errorf("a write is told %v", got)
					}
				}
				if c.below(4) == 0 {
					g.DB().Abort(x)
				} else {
					g.DB().Commit(x)
				}
			}
		})
		if wrote.Load() < 100 {
			t.Errorf("only %d writes", wrote.Load())
		}
		nothingBroken(t, g)
	}
}

// allowed is what may be told in a crowd: to one of the level committed nothing is newer than what it sees.
func allowed(level int, got told) bool {
	switch got.err {
	case api.OK, api.ErrExists, api.ErrMissing, api.ErrTxn:
		return got.b == api.Broken{}
	case api.ErrUnique:
		return got.b.Kind == api.BrokenUnique
	case api.ErrForeign:
		return got.b.Kind == api.BrokenOut || got.b.Kind == api.BrokenIn
	case api.ErrNewer:
		return level != committed && (got.b.Kind == 0 || got.b.Kind == api.BrokenOut)
	}
	return got.err == api.ErrBusy
}

// Gu4, R4: all calls side by side, at all levels, with savepoints, beside Prune and who looks: nothing is broken at any stamp, meanwhile either.
func TestAllSideBySide(t *testing.T) {
	for seed := range 6 {
		g := made(t, storyTexts()...)
		d := g.DB()
		var writers, lookers sync.WaitGroup
		stop := make(chan struct{})
		lookers.Go(func() {
			for {
				select {
				case <-stop:
					return
				default:
					looks(t, g)
				}
			}
		})
		for i := range 9 {
			writers.Go(func() {
				c := &chance{uint64(seed*10 + i)}
				for range 80 {
					x, _ := d.Begin(1 + i%3)
					for range 1 + c.below(6) {
						call := chanceCall(c)
						if call.do >= doGet {
							call.make(g, x)
						} else if got := guarded(g, call.do, x, call.table, call.k, call.l); !allowed(1+i%3, got) {
							t.Errorf("a write is told %v", got)
						}
					}
					if c.below(5) == 0 {
						d.Abort(x)
					} else if _, err := d.Commit(x); err != api.OK && err != api.ErrSerial {
						t.Errorf("Commit: error %d", err)
					}
				}
			})
		}
		writers.Wait()
		close(stop)
		lookers.Wait()
		wants(t, "how many are active", len(d.Active()), 0)
		nothingBroken(t, g)
	}
}

// looks holds that nothing is broken now, and prunes.
func looks(t *testing.T, g *guard.Guard) {
	d := g.DB()
	for n := range storyTexts() {
		stamp := d.Frontier()
		l, err := g.Broken(n, stamp)
		if len(l) > 0 || err != api.OK {
			t.Errorf("Broken of %d at %d: %v, error %d", n, stamp, l, err)
		}
	}
	d.Prune(d.Horizon() - min(d.Horizon(), 9))
}

// R4: many goroutines write in one transaction; whichever ends it, each call is told what it is told ahead of that, or behind it.
func TestOneTransactionSideBySide(t *testing.T) {
	for turn := range 60 {
		g := examples(t)
		filled(t, g, 0, row(0, nil))
		x := begin(t, g, serial)
		var wrote, late atomic.Int64
		together(7, func(i int) {
			if i == 6 {
				for wrote.Load() < int64(turn) {
					if late.Load() > 0 {
						return
					}
				}
				if _, err := g.DB().Commit(x); err != api.OK {
					t.Errorf("Commit: error %d", err)
				}
				return
			}
			for n := range 20 {
				got := guarded(g, 0, x, i%2, nil, row(1+20*i+n, 0))
				switch {
				case got == ok:
					wrote.Add(1)
				case got == only(api.ErrTxn):
					late.Add(1)
				case got != unique(api.ErrUnique, 0, 0):
					t.Errorf("Insert: %v", got)
				}
			}
		})
		d := g.DB()
		left := len(rowsAt(t, d, 0, d.Frontier())) + len(rowsAt(t, d, 1, d.Frontier()))
		wants(t, "how many rows are there", left, 1+int(wrote.Load()))
		nothingBroken(t, g)
	}
}
