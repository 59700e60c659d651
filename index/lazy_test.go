package index_test

import (
	"fmt"
	"math"
	"reflect"
	"sync/atomic"
	"testing"

	"vellum/api"
	"vellum/index"
	"vellum/store"
)

// got is what a Lazy tells that must not be refused.
func got(t *testing.T, l *index.Lazy) *index.Index {
	t.Helper()
	x, err := l.Get()
	if err != api.OK || x == nil {
		t.Fatalf("Get: %v, %d", x, err)
	}
	return x
}

// refusedLater lets all that are lazy be refused: each Get is told the same, and it counts as built.
func refusedLater(t *testing.T, tab api.Table, n int, s *store.Store, want api.Errno) {
	t.Helper()
	l := index.Later(tab, n, s)
	wants(t, "Built ahead of Get", l.Built(), 0)
	for range 3 {
		if x, err := l.Get(); x != nil || err != want {
			t.Fatalf("Get: %v, %d, want %d", x, err, want)
		}
		wants(t, "Built behind Get", l.Built(), 1)
	}
	seen, built, err := index.Crowd(tab, n, s, api.View{Stamp: 1}, 3)
	if len(seen) != 0 || built != 0 || err != want {
		t.Fatalf("Crowd: %v, %d, %d, want %d", seen, built, err, want)
	}
}

// In4: nothing is built by Later; the first Get builds, from the rows as they are then, and all others tell that index.
func TestLater(t *testing.T) {
	s := newStore(t, 9)
	l := index.Later(table(), 0, s)
	wants(t, "Built", l.Built(), 0)
	added(t, s, 1, pair(1, 5))
	settled(t, s, 1, 1)
	wants(t, "Built", l.Built(), 0)
	x := got(t, l)
	wants(t, "Built", l.Built(), 1)
	finds(t, x, all(), false, many, 0)
	added(t, s, 1, pair(2, 4))
	settled(t, s, 1, 2)
	if got(t, l) != x || l.Built() != 1 {
		t.Errorf("another Get tells another index, built %d times", l.Built())
	}
	finds(t, x, all(), false, many, 0)
	put(t, got(t, l), pair(2, 4), 1)
	finds(t, x, all(), false, many, 1, 0)
}

// In4: what is refused is told by all, also when the rows are others by then.
func TestLaterIsRefused(t *testing.T) {
	s := filled(t, pair(1, 5), pair(1, 6))
	refusedLater(t, table(), -1, s, api.ErrTaken)
	l := index.Later(table(), -1, s)
	written(t, s, 1, 1, api.Write{Gone: true}, 1)
	settled(t, s, 1, 2)
	s.Prune(2)
	finds(t, got(t, l), all(), false, many, 0)
	added(t, s, 1, pair(1, 7))
	l = index.Later(table(), -1, s)
	_, err := l.Get()
	wants(t, "Get", err, api.ErrTaken)
	s.Back(1, 0)
	_, err = l.Get()
	wants(t, "Get when the rows would do", err, api.ErrTaken)
	wants(t, "Built", l.Built(), 1)
}

// In4: two of one table know nothing of one another; a nil store has no rows.
func TestLaterTwice(t *testing.T) {
	s := filled(t, pair(1, 5))
	a, b := index.Later(table(), 0, s), index.Later(table(), 0, s)
	x := got(t, a)
	wants(t, "Built of the other one", b.Built(), 0)
	put(t, x, pair(2, 5), 7)
	if got(t, b) == x {
		t.Error("one index for both")
	}
	finds(t, got(t, b), all(), false, many, 0)
	finds(t, got(t, index.Later(table(), 0, nil)), all(), false, many)
}

// Of a Lazy that Later did not give: ErrArg, nothing, 0.
func TestLaziesThatNobodyMade(t *testing.T) {
	copied := &index.Lazy{}
	later := index.Later(table(), 0, nil)
	got(t, later)
	reflect.ValueOf(copied).Elem().Set(reflect.ValueOf(later).Elem())
	for _, l := range []*index.Lazy{nil, {}, copied} {
		x, err := l.Get()
		if x != nil || err != api.ErrArg || l.Built() != 0 {
			t.Errorf("Get: %v, %d; Built: %d", x, err, l.Built())
		}
	}
}

// In4: whoever asks side by side waits for the first one, and is told the same whole index; it is built once.
func TestGetSideBySide(t *testing.T) {
	const rows = 400
	var l [][]api.Value
	for i := range rows {
		l = append(l, pair(int64(i), int64(i%7)))
	}
	s := filled(t, l...)
	for range 40 {
		lazy := index.Later(table(), 0, s)
		var told [16]*index.Index
		var ended atomic.Int64
		together(len(told)+2, func(w int) {
			if w >= len(told) {
				risesToOne(t, lazy, &ended)
				return
			}
			told[w], _ = lazy.Get()
			ended.Add(1)
			if n := len(told[w].Find(all(), false, many)); n != rows || lazy.Built() != 1 {
				t.Errorf("behind Get there are %d entries, built %d times", n, lazy.Built())
			}
		})
		for _, x := range told {
			if x == nil || x != told[0] {
				t.Fatal("not all are told one index")
			}
		}
	}
}

// risesToOne asks how often it was built, till it was: once some Get has ended it is 1.
func risesToOne(t *testing.T, l *index.Lazy, ended *atomic.Int64) {
	for is := 0; is < 1; {
		some := ended.Load() > 0
		if is = l.Built(); is > 1 || some && is != 1 {
			t.Errorf("Built: %d", is)
			return
		}
	}
}

// In4: those who are refused side by side are told the same.
func TestRefusedSideBySide(t *testing.T) {
	s := filled(t, pair(1, 5), pair(2, 5), pair(1, 6))
	for range 100 {
		l := index.Later(table(), -1, s)
		together(8, func(int) {
			if x, err := l.Get(); x != nil || err != api.ErrTaken {
				t.Errorf("Get: %v, %d", x, err)
			}
		})
		wants(t, "Built", l.Built(), 1)
	}
}

// In4: each of a crowd sees all rows that the view sees, rising, and it is built once.
func TestCrowd(t *testing.T) {
	s := filled(t, pair(0, 7), pair(1, -3), pair(2, 7), pair(3, 0))
	written(t, s, 3, 1, api.Write{Row: pair(3, 9)}, 1)
	settled(t, s, 1, 2)
	written(t, s, 1, 5, api.Write{Row: pair(1, 99)}, 2)
	for _, c := range []struct {
		view api.View
		want string
	}{
		{api.View{}, ""},
		{api.View{Stamp: 1}, "1: 1 -3, 3: 3 0, 0: 0 7, 2: 2 7"},
		{api.View{Stamp: 2}, "1: 1 -3, 0: 0 7, 2: 2 7, 3: 3 9"},
		{api.View{Txn: 5, Stamp: 2}, "0: 0 7, 2: 2 7, 3: 3 9, 1: 1 99"},
	} {
		for _, n := range []int{1, 2, 64} {
			l, times, err := index.Crowd(table(), 0, s, c.view, n)
			if len(l) != n || times != 1 || err != api.OK {
				t.Fatalf("Crowd of %d: %d, %d, %d", n, len(l), times, err)
			}
			for _, seen := range l {
				wants(t, fmt.Sprintf("one of %d", n), pairs(seen), c.want)
			}
		}
	}
	l, times, err := index.Crowd(table(), -1, nil, api.View{Stamp: 1}, 2)
	if len(l) != 2 || len(l[0])+len(l[1]) != 0 || times != 1 || err != api.OK {
		t.Errorf("Crowd with nil: %v, %d, %d", l, times, err)
	}
}

// In4: a number of goroutines that may not be is told ahead of all else.
func TestCrowdIsRefused(t *testing.T) {
	taken := filled(t, pair(1, 5), pair(1, 6))
	for _, n := range []int{0, -1, 65, math.MaxInt, math.MinInt} {
		for _, tab := range append(badTables(), table()) {
			for _, number := range []int{-2, -1, 0} {
				l, times, err := index.Crowd(tab, number, taken, api.View{Stamp: 1}, n)
				if len(l) != 0 || times != 0 || err != api.ErrArg {
					t.Fatalf("Crowd of %d: %v, %d, %d", n, l, times, err)
				}
			}
		}
	}
	l, times, err := index.Crowd(table(), -1, taken, api.View{Stamp: 1}, 64)
	if len(l) != 0 || times != 0 || err != api.ErrTaken {
		t.Errorf("Crowd: %v, %d, %d", l, times, err)
	}
}
