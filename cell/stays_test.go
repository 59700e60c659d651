package cell_test

import (
	"runtime"
	"slices"
	"testing"
	"weak"

	"vellum/cell"
)

// Ce4: what All told stays as it was, behind pushes and keeps of all kinds.
func TestWhatAllToldStays(t *testing.T) {
	c, m := cell.New[int](), &model{}
	var told, want [][]int
	x := uint64(7)
	for i := range 300 {
		x = x*6364136223846793005 + 1442695040888963407
		if x>>40%5 == 0 {
			c.Keep(m.pushed, int(x>>50%6))
			m.keep(m.pushed, int(x>>50%6))
		} else {
			c.Push(m.pushed, i)
			m.push(m.pushed, i)
		}
		now := slices.Clone(m.kept)
		slices.Reverse(now)
		told, want = append(told, c.All()), append(want, now)
	}
	for i := range told {
		if !slices.Equal(told[i], want[i]) {
			t.Fatalf("All behind step %d is now %v, was %v", i, told[i], want[i])
		}
	}
}

// R3: an answer is new memory, its spare room too: who writes into it changes neither the place nor another answer.
func TestAnswersShareNothing(t *testing.T) {
	c, m := cell.New[int](), &model{}
	for i := range 9 {
		c.Push(uint64(i), i)
		m.push(uint64(i), i)
		one, two := c.All(), c.All()
		was := slices.Clone(two)
		one = one[:cap(one)]
		for k := range one {
			one[k] = -1
		}
		if !slices.Equal(two, was) {
			t.Fatalf("another answer is %v, was %v", two, was)
		}
		shows(t, c, m, "writing into an answer")
		clear(two)
		if i == 6 {
			c.Keep(7, 3)
			m.keep(7, 3)
		}
		shows(t, c, m, "writing into both answers")
	}
}

// gone counts the values that nothing leads to any more.
func gone(all []weak.Pointer[[64]int]) int {
	n := 0
	for _, p := range all {
		if p.Value() == nil {
			n++
		}
	}
	return n
}

// Ce2: what Keep lets go is kept nowhere: memory is given back.
func TestWhatGoesIsGone(t *testing.T) {
	c := cell.New[*[64]int]()
	var all []weak.Pointer[[64]int]
	for i := range uint64(100) {
		v := &[64]int{int(i)}
		all = append(all, weak.Make(v))
		c.Push(i, v)
	}
	for _, keep := range []int{100, 60, 7, 1} {
		c.Keep(100, keep)
		for range 50 {
			if runtime.GC(); gone(all) == 100-keep {
				break
			}
		}
		if n := gone(all); n != 100-keep {
			t.Fatalf("Keep of %d of 100: %d are gone", keep, n)
		}
		if l := c.All(); len(l) != keep || l[0][0] != 99 || l[keep-1][0] != 100-keep {
			t.Fatalf("Keep of %d: %d values are kept", keep, len(l))
		}
	}
	runtime.KeepAlive(c)
}
