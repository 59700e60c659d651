package skip_test

import (
	"cmp"
	"math"
	"runtime"
	"slices"
	"strings"
	"testing"
	"time"

	"vellum/api"
	"vellum/skip"
)

// placed is an operation of a crowd, the list that it is of, and what it was told.
type placed struct {
	list int
	op   api.SkipOp
	done api.SkipDone
}

// crowd is a Crowd that must be let, and holds what Sk3 and Sk5 say of all crowds: done one behind the other by At, all is told as the plain one tells it, and left as that leaves it.
func crowd(t *testing.T, l [][]api.SkipOp) ([][]api.SkipDone, []api.Entry) {
	t.Helper()
	told, end, err := skip.Crowd(l)
	if err != api.OK || len(told) != len(l) {
		t.Fatalf("Crowd of %d lists: %d answers, error %d", len(l), len(told), err)
	}
	p := plain{}
	for i, x := range inOrder(t, l, told) {
		if x.done.At != uint64(i+1) {
			t.Fatalf("place %d stands where %d should", x.done.At, i+1)
		}
		if value, was := p.do(x.op); x.done.Value != value || x.done.Was != was {
			t.Fatalf("list %d, at %d: %+v was told %d, %v, want %d, %v", x.list, i+1, x.op, x.done.Value, x.done.Was, value, was)
		}
	}
	if !slices.Equal(end, p.rising()) {
		t.Fatalf("at the end %v, want %v", end, p.rising())
	}
	return told, end
}

// inOrder is all operations of a crowd by their places; those of a list must stand in its order.
func inOrder(t *testing.T, l [][]api.SkipOp, told [][]api.SkipDone) []placed {
	t.Helper()
	var all []placed
	for i := range l {
		if len(told[i]) != len(l[i]) {
			t.Fatalf("list %d of %d operations was told %d things", i, len(l[i]), len(told[i]))
		}
		at := uint64(0)
		for k, done := range told[i] {
			if done.At <= at {
				t.Fatalf("list %d: place %d behind %d", i, done.At, at)
			}
			at = done.At
			all = append(all, placed{i, l[i][k], done})
		}
	}
	slices.SortFunc(all, func(a, b placed) int { return cmp.Compare(a.done.At, b.done.At) })
	return all
}

// do does an operation: what its key had ahead of it, and whether it was there.
func (p plain) do(op api.SkipOp) (int64, bool) {
	value, was := p.get(op.Key)
	switch {
	case op.Kind == 1, op.Kind == 2 && !was:
		p.put(op.Key, op.Value, plainHeight(op.Key))
	case op.Kind == 3:
		p.delete(op.Key)
	}
	return value, was
}

func putOp(key string, value int64) api.SkipOp {
	return api.SkipOp{Kind: api.SkipPut, Key: key, Value: value}
}

func addOp(key string, value int64) api.SkipOp {
	return api.SkipOp{Kind: api.SkipAdd, Key: key, Value: value}
}

func deleteOp(key string) api.SkipOp { return api.SkipOp{Kind: api.SkipDelete, Key: key} }
func getOp(key string) api.SkipOp    { return api.SkipOp{Kind: api.SkipGet, Key: key} }

// mixed is lists of so many operations each, of all kinds, on keys of these.
func mixed(lists, size int, keys []string) [][]api.SkipOp {
	l := make([][]api.SkipOp, lists)
	c := chance{r: uint64(lists*size + len(keys)), keys: keys}
	for i := range l {
		for k := range size {
			l[i] = append(l[i], api.SkipOp{Kind: 1 + c.below(4), Key: c.key(), Value: int64(1000*i + k)})
		}
	}
	return l
}

// Sk3: what a crowd of one list is told is what one caller is: by the words of the document.
func TestCrowdOfOne(t *testing.T) {
	tall := "\x00\x00\x00\x00\x00O" // on 5 levels
	ops := []api.SkipOp{
		getOp("k"), deleteOp("k"), addOp("k", 5), getOp("k"), addOp("k", 6), getOp("k"), putOp("k", 7), putOp("k", 0), getOp("k"), addOp("k", 9),
		deleteOp("k"), deleteOp("k"), getOp("k"), putOp(tall, -3), putOp("", 8), addOp("z", math.MinInt64), putOp("y", 1), deleteOp("y"), putOp(tall, -4),
	}
	want := []api.SkipDone{
		{}, {}, {}, {Was: true, Value: 5}, {Was: true, Value: 5}, {Was: true, Value: 5}, {Was: true, Value: 5}, {Was: true, Value: 7}, {Was: true}, {Was: true},
		{Was: true}, {}, {}, {}, {}, {}, {}, {Was: true, Value: 1}, {Was: true, Value: -3},
	}
	for i := range want {
		want[i].At = uint64(i + 1)
	}
	told, end := crowd(t, [][]api.SkipOp{ops})
	if !slices.Equal(told[0], want) {
		t.Errorf("Crowd = %v, want %v", told[0], want)
	}
	if !slices.Equal(end, []api.Entry{{Key: "", Value: 8, Height: 1}, {Key: tall, Value: -4, Height: 5}, {Key: "z", Value: math.MinInt64, Height: skip.Height("z")}}) {
		t.Errorf("at the end %v", end)
	}
}

// Sk3: the value of an operation that does not put one does not matter.
func TestCrowdOtherFields(t *testing.T) {
	ops := []api.SkipOp{{Kind: api.SkipGet, Key: "k", Value: 9}, {Kind: api.SkipDelete, Key: "k", Value: 9}, {Kind: api.SkipPut, Key: "k", Value: 1}, {Kind: api.SkipGet, Key: "k", Value: 9}, {Kind: api.SkipDelete, Key: "k", Value: -9}}
	want := []api.SkipDone{{At: 1}, {At: 2}, {At: 3}, {At: 4, Was: true, Value: 1}, {At: 5, Was: true, Value: 1}}
	if told, end := crowd(t, [][]api.SkipOp{ops}); !slices.Equal(told[0], want) || len(end) != 0 {
		t.Errorf("Crowd = %v, %v, want %v", told, end, want)
	}
}

// Sk3: no lists, and lists of nothing.
func TestCrowdOfNothing(t *testing.T) {
	for _, l := range [][][]api.SkipOp{nil, {}, {nil}, {{}, nil, {}}, make([][]api.SkipOp, 64)} {
		if _, end := crowd(t, l); len(end) != 0 {
			t.Errorf("Crowd of nothing leaves %v", end)
		}
	}
}

// Sk3, Sk5: crowds of many sizes, on one key, on few and on many, held against some order of their steps, which they tell.
func TestCrowdsThatMeet(t *testing.T) {
	for _, size := range [][2]int{{1, 500}, {2, 2}, {2, 1000}, {3, 300}, {8, 400}, {64, 1}, {64, 100}} {
		for _, keys := range [][]string{{"k"}, {"", "a"}, edges(), numbered(300)} {
			l := mixed(size[0], size[1], keys)
			for range 10 {
				crowd(t, l)
			}
		}
	}
}

// Sk5: of many that add a key at one time just one finds that it is not there, and its value stays; of many that delete it just one finds it.
func TestCrowdsThatAdd(t *testing.T) {
	keys := numbered(30)
	l := make([][]api.SkipOp, 16)
	for i := range l {
		for _, key := range keys {
			l[i] = append(l[i], addOp(key, int64(i)))
		}
	}
	for range 20 {
		told, end := crowd(t, l)
		if len(end) != len(keys) {
			t.Fatalf("%d keys are there, want %d", len(end), len(keys))
		}
		for k, e := range end {
			for i := range l {
				if told[i][k].Was == (int64(i) == e.Value) {
					t.Fatalf("%v is there, and list %d was told %v", e, i, told[i][k])
				}
			}
		}
	}
	for i := range l {
		for _, key := range keys {
			l[i] = append(l[i], deleteOp(key))
		}
	}
	for range 20 {
		if _, end := crowd(t, l); len(end) > len(keys) {
			t.Fatalf("%d keys are there", len(end))
		}
	}
}

// Sk5: crowds on neighbours, of which some come and go again and again: what stands beside them stays.
func TestCrowdsOfNeighbours(t *testing.T) {
	keys := numbered(16)
	l := make([][]api.SkipOp, 16)
	for i := range l {
		for n := range 300 {
			if i%4 == 1 {
				l[i] = append(l[i], putOp(keys[i], int64(n)), getOp(keys[i]))
			} else {
				l[i] = append(l[i], addOp(keys[i], int64(n)), deleteOp(keys[i]))
			}
		}
	}
	for range 20 {
		told, end := crowd(t, l)
		if len(end) != 4 || end[0].Value != 299 {
			t.Fatalf("at the end %v", end)
		}
		for i := range l {
			for k, done := range told[i] {
				if i%4 == 1 && done.Was != (k > 0) || i%4 != 1 && done.Was != (k%2 == 1) {
					t.Fatalf("list %d is alone with its key, and was told %v at %d", i, done, k)
				}
			}
		}
	}
}

// Sk3: the goroutines of a crowd work side by side: sooner or later one's steps stand between another one's.
func TestCrowdsMingle(t *testing.T) {
	if runtime.GOMAXPROCS(0) == 1 {
		t.Skip("with one processor goroutines may run one behind the other")
	}
	l := slices.Repeat([][]api.SkipOp{slices.Repeat([]api.SkipOp{putOp("a", 1), getOp("b"), deleteOp("a")}, 300)}, 2)
	for range 5000 {
		told, _ := crowd(t, l)
		if one, two := told[0], told[1]; one[0].At < two[899].At && two[0].At < one[899].At {
			return
		}
	}
	t.Error("in 5000 crowds the lists came one behind the other")
}

// Sk3, R2: each error alone, and of several the one that is named first, with nothing beside it.
func TestCrowdRefuses(t *testing.T) {
	kind := func(kind int) [][]api.SkipOp {
		return [][]api.SkipOp{{putOp("a", 3)}, nil, {getOp("b"), {Kind: kind, Key: "a", Value: 1}}}
	}
	key := strings.Repeat("k", 1026)
	with := func(op api.SkipOp) [][]api.SkipOp { return [][]api.SkipOp{nil, {getOp("a")}, {putOp("a", 1), op}} }
	long := slices.Repeat([]api.SkipOp{getOp("a")}, 65537)
	tests := []struct {
		l    [][]api.SkipOp
		want api.Errno
	}{
		{kind(0), api.ErrArg},
		{kind(5), api.ErrArg},
		{kind(-1), api.ErrArg},
		{kind(1<<32 + 1), api.ErrArg},
		{kind(math.MinInt), api.ErrArg},
		{kind(math.MaxInt), api.ErrArg},
		{[][]api.SkipOp{{{}}}, api.ErrArg},
		{make([][]api.SkipOp, 65), api.ErrArg},
		{make([][]api.SkipOp, 1000), api.ErrArg},
		{slices.Repeat([][]api.SkipOp{{getOp("a")}}, 65), api.ErrArg},
		{with(putOp(key, 1)), api.ErrLong},
		{with(addOp(key, 1)), api.ErrLong},
		{with(deleteOp(key)), api.ErrLong},
		{with(getOp(key)), api.ErrLong},
		{with(getOp(key + key)), api.ErrLong},
		{[][]api.SkipOp{long}, api.ErrFull},
		{[][]api.SkipOp{long[:65536], long[:1]}, api.ErrFull},
		{[][]api.SkipOp{long[:1], nil, long[:65536]}, api.ErrFull},
		{[][]api.SkipOp{long[:40000], long[:25537]}, api.ErrFull},
		{slices.Repeat([][]api.SkipOp{long[:1025]}, 64), api.ErrFull},
		{append(with(getOp(key)), kind(0)...), api.ErrArg},
		{append(with(getOp(key)), long), api.ErrLong},
		{append([][]api.SkipOp{long}, with(putOp(key, 1))...), api.ErrLong},
		{append([][]api.SkipOp{long}, kind(0)...), api.ErrArg},
		{append(kind(9), long), api.ErrArg},
		{[][]api.SkipOp{append(slices.Clone(long), api.SkipOp{Kind: 5})}, api.ErrArg},
		{[][]api.SkipOp{append(slices.Clone(long), getOp(key))}, api.ErrLong},
		{[][]api.SkipOp{append(slices.Clone(long), api.SkipOp{Kind: 5, Key: key})}, api.ErrArg},
		{slices.Repeat([][]api.SkipOp{long[:1025]}, 65), api.ErrArg},
		{slices.Repeat([][]api.SkipOp{{getOp(key)}}, 65), api.ErrArg},
	}
	for i, x := range tests {
		if told, end, err := skip.Crowd(x.l); err != x.want || len(told) != 0 || len(end) != 0 {
			t.Errorf("%d: Crowd of %d lists: %d answers, %v, error %d, want error %d alone", i, len(x.l), len(told), end, err, x.want)
		}
	}
}

// Sk3: the limits themselves are let: 64 lists, 65536 operations, keys of 1025 bytes.
func TestCrowdAtItsLimits(t *testing.T) {
	key := strings.Repeat("k", 1025)
	long := slices.Repeat([]api.SkipOp{putOp(key, 1), getOp(key), addOp(key[:1024], 2), deleteOp(key)}, 16384)
	crowd(t, [][]api.SkipOp{long})
	crowd(t, [][]api.SkipOp{long[:65535], nil, long[:1]})
	crowd(t, slices.Repeat([][]api.SkipOp{long[:1024]}, 64))
	crowd(t, mixed(64, 1024, numbered(5000)))
}

// R3: what is handed in is not changed, nor what lies behind its end; and the lists of an answer are memory of their own.
func TestCrowdSharesNothing(t *testing.T) {
	room, was := mixed(4, 40, edges()), mixed(4, 40, edges())
	l := [][]api.SkipOp{room[0][:10], room[1][:0], room[2], room[3]}
	for range 20 {
		told, end := crowd(t, l[:3])
		kept, keptEnd := slices.Clone(told[2]), slices.Clone(end)
		again, _ := crowd(t, l[:3])
		for _, done := range [][]api.SkipDone{told[0], told[1], again[0], again[1], again[2]} {
			done = done[:cap(done)]
			for i := range done {
				done[i] = api.SkipDone{At: 99, Was: true, Value: 99}
			}
		}
		if !slices.Equal(told[2], kept) || !slices.Equal(end, keptEnd) {
			t.Fatal("lists of answers share memory")
		}
	}
	for i := range room {
		if !slices.Equal(room[i], was[i]) {
			t.Errorf("list %d is now %v", i, room[i])
		}
	}
	if !slices.Equal(l[3], was[3]) || len(l[1]) != 0 {
		t.Errorf("the lists are now %v", l)
	}
}

// R3: lists that are one and the same memory are gone through side by side.
func TestCrowdOfOneListManyTimes(t *testing.T) {
	for range 20 {
		crowd(t, slices.Repeat(mixed(1, 200, edges()), 16))
	}
}

// R4: crowds that run at one time do not know of one another.
func TestCrowdsSideBySide(t *testing.T) {
	together(8, func(w int) {
		l := make([][]api.SkipOp, w+1)
		l[w] = []api.SkipOp{addOp("k", int64(w)), getOp("k"), putOp("k", 5), deleteOp("l")}
		want := []api.SkipDone{{At: 1}, {At: 2, Was: true, Value: int64(w)}, {At: 3, Was: true, Value: int64(w)}, {At: 4}}
		for range 200 {
			told, end, err := skip.Crowd(l)
			if err != api.OK || !slices.Equal(told[w], want) || !slices.Equal(end, []api.Entry{{Key: "k", Value: 5, Height: skip.Height("k")}}) {
				t.Errorf("Crowd = %v, %v, %d", told, end, err)
			}
		}
	})
}

// Sk3, Ways: when a crowd answers, all its goroutines have ended.
func TestCrowdLeavesNoGoroutine(t *testing.T) {
	was := runtime.NumGoroutine()
	for range 20 {
		crowd(t, mixed(64, 64, edges()))
	}
	// A goroutine that is done is counted until it is off its stack: so it may take a moment.
	for range 1000 {
		if runtime.NumGoroutine() <= was {
			return
		}
		time.Sleep(time.Millisecond)
	}
	t.Errorf("%d goroutines, were %d", runtime.NumGoroutine(), was)
}
