package status_test

import (
	"runtime"
	"slices"
	"sync"
	"sync/atomic"
	"testing"

	"vellum/api"
	"vellum/status"
)

// together runs so many workers at one time, which all begin when the last one is there.
func together(workers int, work func(worker int)) {
	var ready, all sync.WaitGroup
	ready.Add(workers)
	for w := range workers {
		all.Go(func() {
			ready.Done()
			ready.Wait()
			work(w)
		})
	}
	all.Wait()
}

// upTo is the numbers from 1 on.
func upTo(n int) []int {
	l := make([]int, n)
	for i := range l {
		l[i] = i + 1
	}
	return l
}

// filled is a table with so many transactions, all prepared.
func filled(txns int) *status.Table {
	x := status.New()
	for n := range txns {
		x.Begin()
		x.Prepare(n + 1)
	}
	return x
}

// St1: many begin at one time till it is full: just 256 are let, each number once.
func TestManyBegin(t *testing.T) {
	for range 50 {
		x := status.New()
		var lists [16][]int
		together(len(lists), func(w int) {
			txn, err := x.Begin()
			for ; err == api.OK; txn, err = x.Begin() {
				lists[w] = append(lists[w], txn)
			}
			if err != api.ErrFull || txn != 0 {
				t.Errorf("Begin = %d, %d, want ErrFull", txn, err)
			}
		})
		all := slices.Sorted(slices.Values(slices.Concat(lists[:]...)))
		if !slices.Equal(all, upTo(256)) || !slices.Equal(x.Open(), upTo(256)) {
			t.Fatalf("begun were %v, open are %v", all, x.Open())
		}
	}
}

// St1: nobody is told ErrFull while there is room: 16 that hold 16 each never are, and no number is given twice.
func TestManyBeginWhereThereIsRoom(t *testing.T) {
	const turns = 4000
	x := status.New()
	var lists [16][]int
	together(len(lists), func(w int) {
		var held []int
		for range turns {
			txn, err := x.Begin()
			if err != api.OK {
				t.Errorf("Begin: %d, and there is room", err)
				return
			}
			lists[w], held = append(lists[w], txn), append(held, txn)
			if len(held) == 16 {
				if err := x.Abort(held[0]); err != api.OK {
					t.Errorf("Abort(%d): %d", held[0], err)
				}
				if err := x.Forget(held[0]); err != api.OK {
					t.Errorf("Forget(%d): %d", held[0], err)
				}
				held = held[1:]
			}
		}
	})
	all := slices.Sorted(slices.Values(slices.Concat(lists[:]...)))
	if !slices.Equal(all, upTo(16*turns)) {
		t.Errorf("%d numbers, want %d, each once", len(all), 16*turns)
	}
	if open := x.Open(); len(open) != 16*15 {
		t.Errorf("%d open, want %d", len(open), 16*15)
	}
}

// St1: one more is let for each that is decided, and no more, whoever asks.
func TestManyBeginWhereItIsFull(t *testing.T) {
	x := filled(256)
	var decided, begun atomic.Int64
	together(8, func(w int) {
		for n := w + 1; n <= 6000; n += 8 {
			if w%2 == 0 && n <= 256 {
				if x.Commit(n, 3) == api.OK {
					decided.Add(1)
				}
			}
			if _, err := x.Begin(); err == api.OK {
				begun.Add(1)
			}
			if open := x.Open(); len(open) > 256 {
				t.Errorf("%d open", len(open))
			}
		}
	})
	for {
		if _, err := x.Begin(); err != api.OK {
			break
		}
		begun.Add(1)
	}
	if decided.Load() != 128 || begun.Load() != 128 || len(x.Open()) != 256 {
		t.Errorf("%d were decided, %d begun, %d are open", decided.Load(), begun.Load(), len(x.Open()))
	}
}

// St2: of many that would decide one, each in its own way, just one is told OK, all others that it is decided; and it is that one's decision that is told ever after.
func TestManyDecideOne(t *testing.T) {
	const workers = 8
	for range 200 {
		x := filled(256)
		var winner, wins [257]atomic.Int64
		together(workers, func(w int) {
			for n := 1; n <= 256; n++ {
				var err api.Errno
				if w == 0 {
					err = x.Abort(n)
				} else {
					err = x.Commit(n, uint64(w))
				}
				if err == api.OK {
					winner[n].Store(int64(w))
					wins[n].Add(1)
				} else if err != api.ErrDecided {
					t.Errorf("worker %d: %d", w, err)
				}
				state, stamp, err := x.State(n)
				if err != api.OK || (state != api.StateCommitted || stamp == 0 || stamp >= workers) && (state != api.StateAborted || stamp != 0) {
					t.Errorf("State(%d) = %d, %d, %d", n, state, stamp, err)
				}
			}
		})
		for n := 1; n <= 256; n++ {
			want := fate{api.StateCommitted, uint64(winner[n].Load())}
			if want.stamp == 0 {
				want.state = api.StateAborted
			}
			stateIs(t, x, n, want)
			if wins[n].Load() != 1 {
				t.Fatalf("%d was decided %d times", n, wins[n].Load())
			}
		}
	}
}

// meet lets workers go on only when all have come as often: so that they go for one thing at the same moment, again and again.
type meet struct {
	workers int64
	there   atomic.Int64
}

func (m *meet) wait(times int) {
	m.there.Add(1)
	for m.there.Load() < m.workers*int64(times) {
		runtime.Gosched()
	}
}

// St2: while others prepare it, who aborts is told OK, from either state: it is not decided meanwhile; and it stays aborted.
func TestManyPrepareWhileOneAborts(t *testing.T) {
	const turns = 60000
	x, m := status.New(), &meet{workers: 3}
	together(3, func(w int) {
		for n := 1; n <= turns; n++ {
			if w == 0 {
				x.Begin()
			}
			m.wait(n)
			if w > 0 {
				if err := x.Prepare(n); err != api.OK && err != api.ErrDecided {
					t.Errorf("Prepare(%d): %d", n, err)
				}
			} else if err := x.Abort(n); err != api.OK {
				t.Errorf("Abort(%d): %d, and nobody else decides", n, err)
			}
		}
	})
	for n := 1; n <= turns; n++ {
		stateIs(t, x, n, fate{state: api.StateAborted})
	}
}

// St2: it may be prepared already, also since a moment: of many that prepare one all are told OK.
func TestManyPrepare(t *testing.T) {
	const turns = 60000
	x, m := status.New(), &meet{workers: 3}
	together(3, func(w int) {
		for n := 1; n <= turns; n++ {
			if w == 0 {
				x.Begin()
			}
			m.wait(2*n - 1)
			if err := x.Prepare(n); err != api.OK {
				t.Errorf("Prepare(%d): %d", n, err)
			}
			m.wait(2 * n)
			if w == 0 {
				x.Abort(n)
			}
		}
	})
}

// St2: nobody commits one that is active: who is told ErrActive comes ahead of the Prepare, and who was told OK by Prepare finds it prepared or decided.
func TestManyPrepareWhileOthersCommit(t *testing.T) {
	for range 100 {
		x := status.New()
		for range 256 {
			x.Begin()
		}
		var oks atomic.Int64
		together(6, func(w int) {
			for n := 1; n <= 256; n++ {
				if w < 3 {
					was := x.Prepare(n)
					if err := x.Commit(n, 4); err == api.OK {
						oks.Add(1)
					} else if err != api.ErrDecided {
						t.Errorf("Commit(%d) behind Prepare, which was told %d: %d", n, was, err)
					}
					continue
				}
				err := x.Commit(n, 5)
				for ; err == api.ErrActive; err = x.Commit(n, 5) {
					runtime.Gosched()
				}
				if err == api.OK {
					oks.Add(1)
				} else if err != api.ErrDecided {
					t.Errorf("Commit(%d): %d", n, err)
				}
			}
		})
		if oks.Load() != 256 || len(x.Open()) != 0 {
			t.Fatalf("%d commits, %d open, want 256, 0", oks.Load(), len(x.Open()))
		}
	}
}

// St2: of many that forget one just one is told OK, the others that it is not there.
func TestManyForget(t *testing.T) {
	for range 100 {
		x := filled(256)
		for n := 1; n <= 256; n++ {
			x.Abort(n)
		}
		var oks atomic.Int64
		together(8, func(int) {
			for n := 1; n <= 256; n++ {
				if err := x.Forget(n); err == api.OK {
					oks.Add(1)
				} else if err != api.ErrTxn {
					t.Errorf("Forget(%d): %d", n, err)
				}
				if _, _, err := x.State(n); err != api.ErrTxn {
					t.Errorf("State(%d) behind Forget: %d", n, err)
				}
			}
		})
		if oks.Load() != 256 {
			t.Fatalf("%d were forgotten, want 256", oks.Load())
		}
	}
}

// St2, Words: a state that is told goes one way alone, and a stamp that is told stays, till it is forgotten.
func TestStatesGoOneWay(t *testing.T) {
	const last = 4000
	x := status.New()
	var begun atomic.Int64
	together(8, func(w int) {
		if w == 0 {
			for n := 1; n <= last; n++ {
				x.Begin()
				begun.Store(int64(n))
				runtime.Gosched()
				x.Prepare(n)
				runtime.Gosched()
				if n%2 == 0 {
					x.Commit(n, uint64(n))
				} else {
					x.Abort(n)
				}
				runtime.Gosched()
				x.Forget(n)
			}
			return
		}
		for n := 0; n < last; n = int(begun.Load()) {
			if n > 0 {
				watch(t, x, n)
			}
			runtime.Gosched()
		}
	})
}

// watch holds that a transaction's state rises, to the end that it must have, till it is forgotten.
func watch(t *testing.T, x *status.Table, txn int) {
	seen := 0
	for {
		state, stamp, err := x.State(txn)
		if err == api.ErrTxn && state == 0 && stamp == 0 {
			return
		}
		end, at := api.StateCommitted, uint64(txn)
		if txn%2 == 1 {
			end, at = api.StateAborted, 0
		}
		if err != api.OK || state < seen || state > api.StatePrepared && (state != end || stamp != at) || state <= api.StatePrepared && stamp != 0 {
			t.Errorf("State(%d) = %d, %d, %d behind %d", txn, state, stamp, err, seen)
			return
		}
		seen = state
		runtime.Gosched()
	}
}

// St1, Words: while others begin and decide, what Open tells was all that was open at some time: here numbers without a hole between them, either 20 or 21.
func TestOpenIsOfOneTime(t *testing.T) {
	x := filled(20)
	stop := make(chan struct{})
	var writer sync.WaitGroup
	writer.Go(func() {
		for n := 1; ; n++ {
			select {
			case <-stop:
				return
			default:
			}
			x.Begin()
			x.Abort(n)
			x.Forget(n)
			if n%64 == 0 {
				runtime.Gosched()
			}
		}
	})
	together(3, func(int) {
		for range 20000 {
			open := x.Open()
			if len(open) < 20 || len(open) > 21 || open[len(open)-1]-open[0] != len(open)-1 {
				t.Errorf("Open = %v", open)
				return
			}
		}
	})
	close(stop)
	writer.Wait()
}

// St1, Words: the same where nothing is begun: they are decided from both ends, by turns, so that as many are at all times, or one more at the lower end, or at the upper one.
func TestOpenIsOfOneTimeFromBothEnds(t *testing.T) {
	for round := range 400 {
		x := filled(256)
		together(3, func(w int) {
			if w == 0 {
				for n := 1; n < 128; n++ {
					one, two := n, 257-n
					if round%2 == 1 {
						one, two = two, one
					}
					x.Abort(one)
					x.Commit(two, 9)
				}
				return
			}
			for open := x.Open(); len(open) > 2; open = x.Open() {
				low, high := open[0]-1, 256-open[len(open)-1]
				if round%2 == 1 {
					low, high = high, low
				}
				if len(open) != 256-low-high || low != high && low != high+1 {
					t.Errorf("%d are open, from %d to %d", len(open), open[0], open[len(open)-1])
					return
				}
				runtime.Gosched()
			}
		})
	}
}

// St1, St2: who was told OK finds it in all that is asked behind it, also through Open, while others do the same.
func TestManyWorkOnTheirOwn(t *testing.T) {
	x := status.New()
	together(16, func(w int) {
		for turn := range 500 {
			txn, err := x.Begin()
			if err != api.OK {
				t.Errorf("Begin: %d", err)
				return
			}
			p := &plain{txn, map[int]fate{txn: {state: api.StateActive}}}
			for i, kind := range [][]int{{2, 4, 1, 1, 4, 2, 2, 3, 1, 4, 4}, {3, 3, 2, 1, 4, 1}, {1, 3, 2, 3, 4, 2}}[turn%3] {
				if err, want := both(x, p, kind, txn, uint64(i+w)); err != want {
					t.Errorf("call of kind %d on %d: error %d, want %d", kind, txn, err, want)
				}
				if state, stamp, _ := x.State(txn); p.all[txn] != (fate{state, stamp}) {
					t.Errorf("State(%d) = %d, %d, want %v", txn, state, stamp, p.all[txn])
				}
				if open := len(p.open()) == 1; slices.Contains(x.Open(), txn) != open {
					t.Errorf("Open has %d: %v", txn, !open)
				}
			}
		}
	})
	if open := x.Open(); len(open) != 0 {
		t.Errorf("Open = %v", open)
	}
}
