package cell_test

import (
	"math"
	"slices"
	"testing"

	"vellum/cell"
)

// model is a place as one caller sees it: a plain list, oldest first, and how many were ever pushed.
type model struct {
	kept   []int
	pushed uint64
}

func (m *model) push(number uint64, v int) bool {
	if number != m.pushed {
		return false
	}
	m.kept = append(m.kept, v)
	m.pushed++
	return true
}

func (m *model) keep(number uint64, n int) bool {
	if number != m.pushed {
		return false
	}
	if n < 1 {
		n = 1
	}
	if n < len(m.kept) {
		m.kept = m.kept[len(m.kept)-n:]
	}
	return true
}

// shows holds what a place tells against the model.
func shows(t *testing.T, c *cell.Cell[int], m *model, done any) {
	t.Helper()
	want := slices.Clone(m.kept)
	slices.Reverse(want)
	if all := c.All(); !slices.Equal(all, want) {
		t.Fatalf("behind %v: All = %v, want %v", done, all, want)
	}
	newest := 0
	if len(want) > 0 {
		newest = want[0]
	}
	if v, number := c.Load(); v != newest || number != m.pushed {
		t.Fatalf("behind %v: Load = %d, %d, want %d, %d", done, v, number, newest, m.pushed)
	}
}

// Ce1, Ce2: the chapter's first example.
func TestExample(t *testing.T) {
	c, m := cell.New[int](), &model{}
	shows(t, c, m, "New")
	if !c.Push(0, 5) || c.Push(0, 6) || !c.Push(1, 6) {
		t.Error("Push: true, false, true are wanted")
	}
	shows(t, c, &model{[]int{5, 6}, 2}, "three pushes")
	if !c.Keep(2, 1) {
		t.Error("Keep(2, 1) = false")
	}
	shows(t, c, &model{[]int{6}, 2}, "Keep(2, 1)")
	if !c.Push(2, 7) {
		t.Error("Push(2, 7) = false")
	}
	shows(t, c, &model{[]int{6, 7}, 3}, "Push(2, 7)")
}

// Ce1: a place with nothing tells the zero value and 0, whatever it keeps; a value pushed is told as it is, the zero value too.
func TestEmptyAndZero(t *testing.T) {
	type pair struct {
		a string
		b float64
	}
	p := cell.New[pair]()
	if v, number := p.Load(); v != (pair{}) || number != 0 {
		t.Errorf("Load of nothing = %v, %d", v, number)
	}
	if all := p.All(); len(all) != 0 {
		t.Errorf("All of nothing = %v", all)
	}
	for i := range uint64(3) {
		if !p.Push(i, pair{}) {
			t.Errorf("Push(%d, zero) = false", i)
		}
	}
	if v, number := p.Load(); v != (pair{}) || number != 3 || len(p.All()) != 3 {
		t.Errorf("Load of zero values = %v, %d, All = %v", v, number, p.All())
	}
	s := cell.New[*pair]()
	if v, number := s.Load(); v != nil || number != 0 {
		t.Errorf("Load of nothing = %v, %d", v, number)
	}
	one := &pair{"x", 1}
	if !s.Push(0, one) || !s.Push(1, nil) {
		t.Error("Push of pointers = false")
	}
	if all := s.All(); len(all) != 2 || all[0] != nil || all[1] != one {
		t.Errorf("All of pointers = %v", all)
	}
	e := cell.New[struct{}]()
	for i := range uint64(5) {
		if !e.Push(i, struct{}{}) || e.Push(i, struct{}{}) {
			t.Errorf("Push(%d) of an empty struct: true and false are wanted", i)
		}
	}
	if _, number := e.Load(); number != 5 || len(e.All()) != 5 {
		t.Errorf("number %d, %d values, want 5", number, len(e.All()))
	}
}

// Ce1: Push with any number but the newest one's is told false, and does nothing.
func TestPushOfAnotherNumber(t *testing.T) {
	c, m := cell.New[int](), &model{}
	for n := range uint64(9) {
		for _, other := range []uint64{n - 2, n - 1, n + 1, n + 2, 0, 1, math.MaxUint64, 1 << 63, 1 << 32, n + 1<<32} {
			if other != n && c.Push(other, 77) {
				t.Errorf("Push(%d) = true, the newest is %d", other, n)
			}
			shows(t, c, m, "a push that was refused")
		}
		if !c.Push(n, int(n)+100) || !m.push(n, int(n)+100) {
			t.Fatalf("Push(%d) = false", n)
		}
	}
}

// Ce2: Keep of each n with each number, over places of each size.
func TestKeep(t *testing.T) {
	for size := range 7 {
		for _, n := range []int{math.MinInt, -7, -1, 0, 1, 2, 3, 4, 5, 6, 7, 8, math.MaxInt} {
			for number := range uint64(9) {
				c, m := cell.New[int](), &model{}
				for i := range size {
					c.Push(uint64(i), i+10)
					m.push(uint64(i), i+10)
				}
				if told, want := c.Keep(number, n), m.keep(number, n); told != want {
					t.Fatalf("Keep(%d, %d) of %d = %v", number, n, size, told)
				}
				shows(t, c, m, []int{size, int(number), n})
			}
		}
	}
}

// Ce2: nothing is kept.
func TestKeepOfNothing(t *testing.T) {
	c := cell.New[int]()
	for _, n := range []int{math.MinInt, -1, 0, 1, 2, math.MaxInt} {
		if !c.Keep(0, n) || c.Keep(1, n) || c.Keep(math.MaxUint64, n) {
			t.Errorf("Keep of nothing, n %d: true, false, false are wanted", n)
		}
		shows(t, c, &model{}, "Keep")
	}
	if !c.Push(0, 3) || c.Keep(0, 1) {
		t.Error("Push(0), Keep(0): true and false are wanted")
	}
	shows(t, c, &model{[]int{3}, 1}, "Push")
}

// Ce1, Ce2: each number is used once, also behind Keep: no earlier one pushes again.
func TestNumbersAreUsedOnce(t *testing.T) {
	c := cell.New[int]()
	for n := range uint64(200) {
		if !c.Push(n, int(n)) {
			t.Fatalf("Push(%d) = false", n)
		}
		if !c.Keep(n+1, int(n%4)) {
			t.Fatalf("Keep(%d) = false", n+1)
		}
		for was := range n + 1 {
			if c.Push(was, -1) || c.Keep(was, 1) {
				t.Fatalf("number %d is taken, behind %d", was, n+1)
			}
		}
	}
	if v, number := c.Load(); v != 199 || number != 200 {
		t.Errorf("Load = %d, %d, want 199, 200", v, number)
	}
}

type step struct {
	keep   bool
	number uint64
	n      int
}

// Ce1, Ce2: every row of five steps, of pushes and keeps by each number near and far, told as the model tells.
func TestAllRowsOfSteps(t *testing.T) {
	var steps []step
	for number := range uint64(4) {
		steps = append(steps, step{false, number, 0}, step{true, number, 1}, step{true, number, 2})
	}
	row := make([]step, 5)
	var next func(depth int)
	next = func(depth int) {
		if depth < len(row) {
			for _, s := range steps {
				row[depth] = s
				next(depth + 1)
			}
			return
		}
		c, m := cell.New[int](), &model{}
		for i, s := range row {
			var told, want bool
			if s.keep {
				told, want = c.Keep(s.number, s.n), m.keep(s.number, s.n)
			} else {
				told, want = c.Push(s.number, i+1), m.push(s.number, i+1)
			}
			if told != want {
				t.Fatalf("step %d of %v = %v", i, row, told)
			}
		}
		shows(t, c, m, row)
	}
	next(0)
}

// Ce1, Ce2: long rows of steps, which mostly take effect.
func TestLongRows(t *testing.T) {
	for seed := range uint64(30) {
		c, m, x := cell.New[int](), &model{}, seed
		for i := range 2000 {
			x = x*6364136223846793005 + 1442695040888963407
			number, n := m.pushed, int(x>>33%40)-3
			if x>>60 == 0 {
				number -= x >> 50 % 3
			}
			var told, want bool
			if x>>40%8 == 0 {
				told, want = c.Keep(number, n), m.keep(number, n)
			} else {
				told, want = c.Push(number, i), m.push(number, i)
			}
			if told != want {
				t.Fatalf("seed %d, step %d: %v", seed, i, told)
			}
			shows(t, c, m, i)
		}
	}
}

// R4: places know nothing of one another.
func TestPlacesAreApart(t *testing.T) {
	a, b := cell.New[int](), cell.New[int]()
	a.Push(0, 1)
	a.Push(1, 2)
	shows(t, b, &model{}, "pushes onto another place")
	b.Push(0, 3)
	a.Keep(2, 1)
	shows(t, a, &model{[]int{2}, 2}, "Keep")
	shows(t, b, &model{[]int{3}, 1}, "Keep of another place")
}
