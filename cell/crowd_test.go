package cell_test

import (
	"math"
	"runtime"
	"slices"
	"testing"
	"time"

	"vellum/api"
	"vellum/cell"
)

// crowd is a Crowd that must be let, and holds what Ce3 says of all crowds: each list's values stand in their order, each value as often as it was handed in.
func crowd(t *testing.T, l [][]int64) []int64 {
	t.Helper()
	all, err := cell.Crowd(l)
	if err != api.OK {
		t.Fatalf("Crowd of %d lists: error %d", len(l), err)
	}
	want, got := slices.Sorted(slices.Values(slices.Concat(l...))), slices.Sorted(slices.Values(all))
	if !slices.Equal(got, want) {
		t.Fatalf("Crowd of %d lists: %d values, not those %d that were handed in", len(l), len(got), len(want))
	}
	for i, values := range l {
		at := 0
		for _, v := range all {
			if at < len(values) && v == values[at] {
				at++
			}
		}
		if at < len(values) {
			t.Fatalf("Crowd of %d lists: list %d is not in its order", len(l), i)
		}
	}
	return all
}

// unlike is lists of the values from 0 on, each once, of so many each.
func unlike(sizes ...int) [][]int64 {
	var l [][]int64
	next := int64(0)
	for _, size := range sizes {
		var values []int64
		for range size {
			values = append(values, next)
			next++
		}
		l = append(l, values)
	}
	return l
}

// Ce3: the chapter's second example.
func TestCrowdExample(t *testing.T) {
	for range 500 {
		all := crowd(t, [][]int64{{1, 2}, {3}})
		if !slices.Equal(all, []int64{1, 2, 3}) && !slices.Equal(all, []int64{1, 3, 2}) && !slices.Equal(all, []int64{3, 1, 2}) {
			t.Fatalf("Crowd = %v", all)
		}
	}
}

// Ce3: a crowd of one tells its list, oldest first.
func TestCrowdOfOne(t *testing.T) {
	for _, values := range [][]int64{{}, {0}, {5}, {3, 1, 2}, {2, 2, 2, 1, 2}, {math.MinInt64, math.MaxInt64, 0, -1, 0, math.MinInt64}} {
		if all := crowd(t, [][]int64{values}); !slices.Equal(all, values) {
			t.Errorf("Crowd(%v) = %v", values, all)
		}
	}
}

// Ce3: lists of nothing, and no lists.
func TestCrowdOfNothing(t *testing.T) {
	for _, l := range [][][]int64{nil, {}, {nil}, {{}, nil, {}}, make([][]int64, api.MaxCrowd)} {
		if all := crowd(t, l); len(all) != 0 {
			t.Errorf("Crowd(%v) = %v", l, all)
		}
	}
	if all := crowd(t, [][]int64{{}, {7, 8}, nil}); !slices.Equal(all, []int64{7, 8}) {
		t.Errorf("Crowd = %v, want 7 8", all)
	}
}

// Ce3: crowds of all sizes, with values that are all unlike.
func TestCrowds(t *testing.T) {
	for _, sizes := range [][]int{{1, 1}, {1000, 1000}, {1, 5000}, {300, 0, 40, 7, 1, 0, 999}, slices.Repeat([]int{100}, 64), {30000, 1, 30000}} {
		for range 10 {
			crowd(t, unlike(sizes...))
		}
	}
}

// Ce3: the same values in many lists stand there as often as they were handed in.
func TestCrowdOfTheSame(t *testing.T) {
	l := make([][]int64, 16)
	for i := range l {
		for k := range 500 {
			l[i] = append(l[i], int64(k*(i%3)%7)-3)
		}
	}
	crowd(t, l)
	crowd(t, slices.Repeat([][]int64{{4, 4, 4, 5}}, 64))
}

// Ce3, R2: at the limits a crowd is let; beyond them it is refused, with nothing beside the error.
func TestCrowdLimits(t *testing.T) {
	let := [][]int{
		slices.Repeat([]int{1}, 64),
		slices.Repeat([]int{1024}, 64),
		{65536},
		{0, 65535, 1, 0},
	}
	for _, sizes := range let {
		if all := crowd(t, unlike(sizes...)); len(all) == 65536 != (len(sizes) != 64 || sizes[0] == 1024) {
			t.Errorf("Crowd of %d lists: %d values", len(sizes), len(all))
		}
	}
	refused := [][]int{
		slices.Repeat([]int{0}, 65),
		slices.Repeat([]int{1}, 65),
		slices.Repeat([]int{0}, 1000),
		{65537},
		{65536, 1},
		{1, 65536},
		{40000, 25537},
		append(slices.Repeat([]int{1024}, 64), 0),
		append(slices.Repeat([]int{1024}, 63), 1025),
		append(slices.Repeat([]int{1025}, 64), 1),
	}
	for _, sizes := range refused {
		if all, err := cell.Crowd(unlike(sizes...)); err != api.ErrFull || len(all) != 0 {
			t.Errorf("Crowd of %d lists, the first of %d: %d values, error %d, want ErrFull", len(sizes), sizes[0], len(all), err)
		}
	}
}

// R3: what is handed in is not changed, nor what lies behind its end; and the answer is memory of its own.
func TestCrowdSharesNothing(t *testing.T) {
	room := unlike(20, 20, 20)
	was := unlike(20, 20, 20)
	l := [][]int64{room[0][:10], room[1][:0], room[2][:20], {99}}
	for range 20 {
		all, again := crowd(t, l[:3]), crowd(t, l[:3])
		wasAgain := slices.Clone(again)
		all = all[:cap(all)]
		for i := range all {
			all[i] = -1
		}
		if !slices.Equal(again, wasAgain) {
			t.Fatal("two answers share memory")
		}
	}
	for i := range room {
		if !slices.Equal(room[i], was[i]) {
			t.Errorf("list %d is now %v", i, room[i])
		}
	}
	if len(l[3]) != 1 || l[3][0] != 99 {
		t.Errorf("behind the lists' end there is now %v", l[3])
	}
}

// R4: crowds that run at one time do not know of one another.
func TestCrowdsSideBySide(t *testing.T) {
	together(8, func(w int) {
		l := unlike(100, 200, 50)
		for i := range l {
			for k := range l[i] {
				l[i][k] = l[i][k]*8 + int64(w)
			}
		}
		for range 10 {
			all, err := cell.Crowd(l)
			if err != api.OK || len(all) != 350 {
				t.Errorf("Crowd: %d values, error %d", len(all), err)
			}
			for _, v := range all {
				if v%8 != int64(w) {
					t.Errorf("crowd %d is told %d", w, v)
				}
			}
		}
	})
}

// Ce3, Ways: when a crowd answers, all its goroutines have ended.
func TestCrowdLeavesNoGoroutine(t *testing.T) {
	was := runtime.NumGoroutine()
	for range 20 {
		crowd(t, unlike(slices.Repeat([]int{30}, 64)...))
	}
	// A goroutine that is done is counted until it is off its stack: so it may take a moment.
	for range 1000 {
		if runtime.NumGoroutine() <= was {
			return
		}
		time.Sleep(time.Millisecond)
	}
	t.Errorf("%d goroutines, were %d", runtime.NumGoroutine(), was)
}
