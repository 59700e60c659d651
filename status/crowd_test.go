package status_test

import (
	"math"
	"runtime"
	"slices"
	"testing"
	"time"

	"vellum/api"
	"vellum/status"
)

// crowd is a Crowd that must be let, and holds what St3 says of all crowds.
func crowd(t *testing.T, txns int, l [][]api.Decision) []int {
	t.Helper()
	by, err := status.Crowd(txns, l)
	if err != api.OK || len(by) != txns {
		t.Fatalf("Crowd of %d, %d lists: %d answers, error %d", txns, len(l), len(by), err)
	}
	named := make([]int, txns)
	for _, decisions := range l {
		for _, d := range decisions {
			named[d.Txn-1]++
		}
	}
	for i, n := range by {
		if n < -1 || n >= len(l) || (n == -1) != (named[i] == 0) {
			t.Fatalf("%d was decided by %d, it is named %d times", i+1, n, named[i])
		}
		if n >= 0 && !slices.ContainsFunc(l[n], func(d api.Decision) bool { return d.Txn == i+1 }) {
			t.Fatalf("%d was decided by %d, which does not name it", i+1, n)
		}
	}
	if !inSomeOrder(by, l) {
		t.Fatalf("Crowd of %d, %d lists = %v: in no order of the lists' steps", txns, len(l), by)
	}
	return by
}

// inSomeOrder is whether the lists can be gone through side by side so that each transaction is decided by the one that was told: a list goes on wherever its next transaction is decided already, or is its own. The first step of all decides, so the first decision of some list does.
func inSomeOrder(by []int, l [][]api.Decision) bool {
	decided := make([]bool, len(by))
	at := make([]int, len(l))
	for moved := true; moved; {
		moved = false
		for i, decisions := range l {
			for at[i] < len(decisions) && (decided[decisions[at[i]].Txn-1] || by[decisions[at[i]].Txn-1] == i) {
				decided[decisions[at[i]].Txn-1] = true
				at[i]++
				moved = true
			}
		}
	}
	for i, decisions := range l {
		if at[i] < len(decisions) {
			return false
		}
	}
	return true
}

// same is lists of so many decisions each, which go through the transactions from unlike ones on, by commits and aborts.
func same(txns, lists, size int) [][]api.Decision {
	l := make([][]api.Decision, lists)
	for i := range l {
		for k := range size {
			l[i] = append(l[i], api.Decision{Txn: (k*(i%3+1)+i)%txns + 1, Stamp: uint64((k + i) % 3)})
		}
	}
	return l
}

// St3: the chapter's second example.
func TestCrowdExample(t *testing.T) {
	for range 500 {
		by := crowd(t, 2, [][]api.Decision{{{Txn: 1, Stamp: 5}}, {{Txn: 1, Stamp: 0}}})
		if by[0] != 0 && by[0] != 1 || by[1] != -1 {
			t.Fatalf("Crowd = %v", by)
		}
	}
}

// St3: what a crowd of one is told, and where the lists name nothing in common: by commits, at the first and at the last stamp, and by aborts.
func TestCrowdsThatDoNotMeet(t *testing.T) {
	tests := []struct {
		txns int
		l    [][]api.Decision
		want []int
	}{
		{1, [][]api.Decision{{{Txn: 1, Stamp: 5}}}, []int{0}},
		{1, [][]api.Decision{{{Txn: 1, Stamp: 0}}}, []int{0}},
		{1, [][]api.Decision{{{Txn: 1, Stamp: 1 << 62}}}, []int{0}},
		{1, [][]api.Decision{{{Txn: 1, Stamp: 1}, {Txn: 1, Stamp: 2}, {Txn: 1, Stamp: 0}}}, []int{0}},
		{3, [][]api.Decision{{{Txn: 2, Stamp: 7}}}, []int{-1, 0, -1}},
		{3, [][]api.Decision{nil, {{Txn: 3, Stamp: 7}, {Txn: 1, Stamp: 0}}}, []int{1, -1, 1}},
		{4, [][]api.Decision{{{Txn: 4, Stamp: 7}}, {}, {{Txn: 1, Stamp: 0}, {Txn: 2, Stamp: 7}, {Txn: 1, Stamp: 7}}}, []int{2, 2, -1, 0}},
		{256, [][]api.Decision{{{Txn: 256, Stamp: 1 << 62}}, {{Txn: 255, Stamp: 0}}, {{Txn: 1, Stamp: 1}}}, append(append([]int{2}, slices.Repeat([]int{-1}, 253)...), 1, 0)},
	}
	for _, x := range tests {
		if by := crowd(t, x.txns, x.l); !slices.Equal(by, x.want) {
			t.Errorf("Crowd(%d, %v) = %v, want %v", x.txns, x.l, by, x.want)
		}
	}
}

// St3: lists of nothing, and no lists, and no transactions.
func TestCrowdOfNothing(t *testing.T) {
	for _, txns := range []int{0, 1, 2, 255, 256} {
		for _, l := range [][][]api.Decision{nil, {}, {nil}, {{}, nil, {}}, make([][]api.Decision, 64)} {
			if by := crowd(t, txns, l); !slices.Equal(by, slices.Repeat([]int{-1}, txns)) {
				t.Errorf("Crowd(%d) of nothing = %v", txns, by)
			}
		}
	}
}

// St3: crowds of many sizes, whose lists meet everywhere.
func TestCrowdsThatMeet(t *testing.T) {
	for _, size := range [][3]int{{1, 64, 1}, {1, 2, 1000}, {2, 2, 2}, {7, 5, 100}, {256, 64, 256}, {256, 2, 512}, {100, 8, 300}, {256, 64, 1024}, {3, 1, 65536}} {
		for range 20 {
			crowd(t, size[0], same(size[0], size[1], size[2]))
		}
	}
}

// fromBothEnds is two lists that both name all of 256, the one rising, the other one falling.
func fromBothEnds() [][]api.Decision {
	l := make([][]api.Decision, 2)
	for n := range 256 {
		l[0] = append(l[0], api.Decision{Txn: n + 1, Stamp: uint64(n)})
		l[1] = append(l[1], api.Decision{Txn: 256 - n, Stamp: uint64(n)})
	}
	return l
}

// St3: lists that go for the same ones from both ends share them in two parts.
func TestCrowdsFromBothEnds(t *testing.T) {
	l := fromBothEnds()
	for range 200 {
		by := crowd(t, 256, l)
		split := slices.Index(by, 1)
		if split < 0 {
			split = 256
		}
		if !slices.Equal(by, append(slices.Repeat([]int{0}, split), slices.Repeat([]int{1}, 256-split)...)) {
			t.Fatalf("Crowd = %v", by)
		}
	}
}

// St3: the goroutines of a crowd work side by side: sooner or later two of them decide something.
func TestCrowdsMingle(t *testing.T) {
	if runtime.GOMAXPROCS(0) == 1 {
		t.Skip("with one processor goroutines may run one behind the other")
	}
	l := fromBothEnds()
	for range 5000 {
		by := crowd(t, 256, l)
		if slices.Contains(by, 0) && slices.Contains(by, 1) {
			return
		}
	}
	t.Error("in 5000 crowds one list decided all")
}

// St3, R2: each error alone, and of several the one that is named first, with nothing beside it.
func TestCrowdRefuses(t *testing.T) {
	one := func(txn int, stamp uint64) [][]api.Decision {
		return [][]api.Decision{{{Txn: 1, Stamp: 1}}, nil, {{Txn: 1, Stamp: 2}, {Txn: txn, Stamp: stamp}}}
	}
	many := make([][]api.Decision, 65)
	long := slices.Repeat([]api.Decision{{Txn: 1, Stamp: 3}}, 65537)
	lists := func(size int) [][]api.Decision { return slices.Repeat([][]api.Decision{long[:size]}, 64) }
	tests := []struct {
		txns int
		l    [][]api.Decision
		want api.Errno
	}{
		{-1, nil, api.ErrArg},
		{257, nil, api.ErrArg},
		{math.MinInt, nil, api.ErrArg},
		{math.MaxInt, nil, api.ErrArg},
		{257, one(1, 1), api.ErrArg},
		{0, one(1, 1), api.ErrArg},
		{9, one(0, 1), api.ErrArg},
		{9, one(-1, 0), api.ErrArg},
		{9, one(10, 1), api.ErrArg},
		{256, one(257, 1), api.ErrArg},
		{9, one(math.MinInt, 1), api.ErrArg},
		{9, one(math.MaxInt, 1), api.ErrArg},
		{9, one(1<<32+1, 1), api.ErrArg},
		{9, one(1, 1<<62+1), api.ErrArg},
		{9, one(1, 1<<62+2), api.ErrArg},
		{9, one(1, 1<<63), api.ErrArg},
		{9, one(1, math.MaxUint64), api.ErrArg},
		{9, many, api.ErrFull},
		{0, many, api.ErrFull},
		{0, make([][]api.Decision, 1000), api.ErrFull},
		{1, [][]api.Decision{long}, api.ErrFull},
		{1, [][]api.Decision{long[:65536], long[:1]}, api.ErrFull},
		{1, [][]api.Decision{long[:1], nil, long[:65536]}, api.ErrFull},
		{1, [][]api.Decision{long[:40000], long[:25537]}, api.ErrFull},
		{1, lists(1025), api.ErrFull},
		{1, append(lists(1024), nil), api.ErrFull},
		{257, many, api.ErrArg},
		{-1, [][]api.Decision{long}, api.ErrArg},
		{9, append(slices.Clone(many), one(10, 1)...), api.ErrArg},
		{9, append(one(1, 1<<62+1), many...), api.ErrArg},
		{9, append([][]api.Decision{long}, one(0, 1)...), api.ErrArg},
		{9, [][]api.Decision{append(slices.Clone(long), api.Decision{Txn: 1, Stamp: 1<<62 + 1})}, api.ErrArg},
	}
	for i, x := range tests {
		if by, err := status.Crowd(x.txns, x.l); err != x.want || len(by) != 0 {
			t.Errorf("%d: Crowd(%d) of %d lists: %d answers, error %d, want error %d alone", i, x.txns, len(x.l), len(by), err, x.want)
		}
	}
}

// St3: the limits themselves are let: 256 transactions, 64 lists, 65536 decisions, and the last stamp.
func TestCrowdAtItsLimits(t *testing.T) {
	long := slices.Repeat([]api.Decision{{Txn: 256, Stamp: 1 << 62}, {Txn: 1, Stamp: 0}}, 32768)
	crowd(t, 256, [][]api.Decision{long})
	crowd(t, 256, [][]api.Decision{long[:65535], nil, long[:1]})
	crowd(t, 256, slices.Repeat([][]api.Decision{long[:1024]}, 64))
	crowd(t, 256, slices.Repeat([][]api.Decision{long[:1]}, 64))
}

// R3: what is handed in is not changed, nor what lies behind its end; and the answer is memory of its own.
func TestCrowdSharesNothing(t *testing.T) {
	room, was := same(20, 4, 20), same(20, 4, 20)
	l := [][]api.Decision{room[0][:10], room[1][:0], room[2][:20], room[3]}
	for range 20 {
		by, again := crowd(t, 20, l[:3]), crowd(t, 20, l[:3])
		kept := slices.Clone(again)
		by = by[:cap(by)]
		for i := range by {
			by[i] = 99
		}
		if !slices.Equal(again, kept) {
			t.Fatal("two answers share memory")
		}
	}
	for i := range room {
		if !slices.Equal(room[i], was[i]) {
			t.Errorf("list %d is now %v", i, room[i])
		}
	}
	if !slices.Equal(l[3], was[3]) || len(l[1]) != 0 {
		t.Errorf("the lists are now %v", l)
	}
}

// R4: crowds that run at one time do not know of one another.
func TestCrowdsSideBySide(t *testing.T) {
	together(8, func(w int) {
		l := make([][]api.Decision, w+1)
		l[w] = []api.Decision{{Txn: w + 1, Stamp: 4}}
		want := slices.Repeat([]int{-1}, 8)
		want[w] = w
		for range 200 {
			if by, err := status.Crowd(8, l); err != api.OK || !slices.Equal(by, want) {
				t.Errorf("Crowd = %v, %d, want %v", by, err, want)
			}
		}
	})
}

// St3, Ways: when a crowd answers, all its goroutines have ended.
func TestCrowdLeavesNoGoroutine(t *testing.T) {
	was := runtime.NumGoroutine()
	for range 20 {
		crowd(t, 256, same(256, 64, 64))
	}
	// A goroutine that is done is counted until it is off its stack: so it may take a moment.
	for range 1000 {
		if runtime.NumGoroutine() <= was {
			return
		}
		time.Sleep(time.Millisecond)
	}
	t.Errorf("%d goroutines, were %d", runtime.NumGoroutine(), was)
}
