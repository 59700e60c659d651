package store_test

import (
	"runtime"
	"strings"
	"sync/atomic"
	"testing"

	"vellum/store"
)

// call is a step that a goroutine did: what it was told, and at which ticks it began and ended.
type call struct {
	step
	told        string
	began, done uint64
}

// caller is a goroutine that does steps by chance, as one transaction that writes one row at most at a time: so each of its calls changes one row at most, and takes effect whole.
type caller struct {
	s     *store.Store
	txn   int
	r     rng
	most  int
	holds int
	tick  *atomic.Uint64
	calls []call
}

// next is a step that writes no second row.
func (c *caller) next() step {
	st := step{kind: c.r.below(kinds), slot: c.r.below(c.most), txn: c.txn, stamp: uint64(1 + c.r.below(12))}
	st.w = on(c.r.below(2), int64(c.r.below(9)))
	if c.r.below(4) == 0 {
		st.w = goneOn(c.r.below(2))
	}
	switch {
	case st.kind == prune && c.most > 1:
		st.kind = read
	case st.kind == add && c.holds >= 0:
		st.kind = back
	case st.kind == write && c.holds >= 0:
		st.slot = c.holds
	}
	if st.kind == read {
		st.txn = c.r.below(4) // it may look with any one's eyes
	}
	return st
}

func (c *caller) do(st step) {
	did := call{step: st, began: c.tick.Add(1)}
	did.told = do(c.s, st)
	did.done = c.tick.Add(1)
	c.calls = append(c.calls, did)
	switch {
	case did.told == "write 0":
		c.holds = st.slot
	case st.kind == add && strings.HasSuffix(did.told, " 0"):
		c.holds = int(did.told[len("add ")] - '0')
	case st.kind == settle && strings.HasSuffix(did.told, " 0"):
		c.holds = -1
	case st.kind == back && st.w.Level == 0:
		c.holds = -1
	}
}

// serial tells whether the calls can have taken effect one behind the other, each between its beginning and its end.
func serial(p *plain, lists [][]call) bool {
	first := ^uint64(0) // the first end of a call that is still to come
	left := false
	for _, l := range lists {
		if len(l) > 0 {
			first, left = min(first, l[0].done), true
		}
	}
	if !left {
		return true
	}
	for i, l := range lists {
		if len(l) == 0 || l[0].began > first {
			continue
		}
		then := p.clone()
		if do(then, l[0].step) != l[0].told {
			continue
		}
		lists[i] = l[1:]
		if serial(then, lists) {
			return true
		}
		lists[i] = l
	}
	return false
}

// So2, So3, and the words: what calls do that change one row takes effect whole, and what Add, Write and Read do: many at one time are told what one caller is told who does them in some order, each between its beginning and its end. So an Add tells the least free slot, while rows come and go below it.
func TestCallsTakeEffectWhole(t *testing.T) {
	for turn := range 4000 {
		most := 1 + turn%3
		s := newStore(t, most)
		callers := make([]caller, 3)
		var tick atomic.Uint64
		for i := range callers {
			callers[i] = caller{s: s, txn: i + 1, r: rng(turn*31 + i), most: most, holds: -1, tick: &tick}
		}
		together(len(callers), func(w int) {
			for range 12 {
				callers[w].do(callers[w].next())
				if callers[w].r.below(4) == 0 {
					runtime.Gosched()
				}
			}
		})
		lists := make([][]call, len(callers))
		for i := range callers {
			lists[i] = callers[i].calls
		}
		if !serial(newPlain(most), lists) {
			for i := range callers {
				for _, c := range callers[i].calls {
					t.Logf("%d: %v told %s, %d to %d", i+1, c.step, c.told, c.began, c.done)
				}
			}
			t.Fatalf("turn %d: no order tells what was told, of %d slots", turn, most)
		}
	}
}
