package chain_test

import (
	"math"
	"testing"

	"vellum/api"
	"vellum/chain"
)

// Example 3 of the chapter: writes x on 0, y on 2.
func TestSavepointExample(t *testing.T) {
	in := intent(3, on(0, 'x'), on(2, 'y'))
	if out, e := chain.Put(in, on(1, 'z')); e != api.ErrArg || !sameIntent(out, api.Intent{}) {
		t.Errorf("Put on 1 = %s, %d", shownIntent(out), e)
	}
	if out, e := chain.Put(in, on(2, 'z')); e != api.OK || !sameIntent(out, intent(3, on(0, 'x'), on(2, 'z'))) {
		t.Errorf("Put on 2 = %s, %d", shownIntent(out), e)
	}
	if out := chain.Back(in, 1); !sameIntent(out, intent(3, on(0, 'x'))) {
		t.Errorf("Back of 1 = %s", shownIntent(out))
	}
	if out := chain.Back(in, 0); !sameIntent(out, api.Intent{}) {
		t.Errorf("Back of 0 = %s", shownIntent(out))
	}
	if out, e := chain.Fold(in, 1); e != api.OK || !sameIntent(out, intent(3, on(0, 'y'))) {
		t.Errorf("Fold of 1 = %s, %d", shownIntent(out), e)
	}
}

// byLevel is an intent's writes by their levels, and the greatest of these; -1: there is none.
func byLevel(in api.Intent) (map[int]api.Write, int) {
	m, top := make(map[int]api.Write), -1
	for _, w := range in.Writes {
		m[w.Level] = w
		top = max(top, w.Level)
	}
	return m, top
}

// risen is the intent with these writes, each on the level by which it is found.
func risen(txn int, m map[int]api.Write, top int) api.Intent {
	in := api.Intent{Txn: txn}
	for level := 0; level <= top; level++ {
		if w, there := m[level]; there {
			w.Level = level
			in.Writes = append(in.Writes, w)
		}
	}
	return in
}

// Ch4: Put into all intents with levels up to 4, on all levels.
func TestPutOfAll(t *testing.T) {
	begun := append(allIntents(3, 4)[1:], intent(3))
	for _, in := range begun {
		for level := -2; level <= 6; level++ {
			for _, w := range []api.Write{on(level, 99), goneOn(level), {Level: level}} {
				m, top := byLevel(in)
				out, e := chain.Put(in, w)
				if level < 0 || level < top {
					if e != api.ErrArg || !sameIntent(out, api.Intent{}) {
						t.Errorf("Put%s on %d = %s, %d, want ErrArg", shownIntent(in), level, shownIntent(out), e)
					}
					continue
				}
				m[level] = w
				if want := risen(3, m, level); e != api.OK || !sameIntent(out, want) {
					t.Errorf("Put%s on %d = %s, %d, want %s", shownIntent(in), level, shownIntent(out), e, shownIntent(want))
				}
			}
		}
	}
}

// Ch4: what Put refuses, each for itself.
func TestPutRefuses(t *testing.T) {
	for _, c := range []struct {
		in api.Intent
		w  api.Write
	}{
		{api.Intent{}, on(0, 1)},
		{intent(0, on(0, 1)), on(0, 1)},
		{intent(-1), on(0, 1)},
		{intent(math.MinInt, on(0, 1)), on(1, 1)},
		{intent(1), on(-1, 1)},
		{intent(1), on(math.MinInt, 1)},
		{intent(1), goneOn(-1)},
		{intent(1), api.Write{Gone: true, Row: row(1)}},
		{intent(1, on(0, 1)), api.Write{Gone: true, Row: row(1)}},
		{intent(1, on(0, 1), on(5, 1)), on(4, 1)},
		{intent(1, on(1, 1)), goneOn(0)},
		{intent(1, on(math.MaxInt, 1)), on(math.MaxInt-1, 1)},
		{intent(1, on(5, 1), on(3, 1)), on(4, 1)}, // the write that is above need not be the last
	} {
		if out, e := chain.Put(c.in, c.w); e != api.ErrArg || !sameIntent(out, api.Intent{}) {
			t.Errorf("Put%s on %d = %s, %d, want ErrArg", shownIntent(c.in), c.w.Level, shownIntent(out), e)
		}
	}
}

// Ch4: Put lets the first write, a Gone one without a row, and one on the last level.
func TestPutLets(t *testing.T) {
	for _, c := range []struct {
		in   api.Intent
		w    api.Write
		want api.Intent
	}{
		{intent(1), on(0, 1), intent(1, on(0, 1))},
		{api.Intent{Txn: 1, Writes: []api.Write{}}, on(7, 1), intent(1, on(7, 1))},
		{intent(math.MaxInt), goneOn(0), intent(math.MaxInt, goneOn(0))},
		{intent(1, on(0, 1)), api.Write{Gone: true, Row: []api.Value{}}, intent(1, goneOn(0))},
		{intent(1, goneOn(0)), on(0, 2), intent(1, on(0, 2))},
		{intent(1, on(0, 1)), on(math.MaxInt, 2), intent(1, on(0, 1), on(math.MaxInt, 2))},
		{intent(1, on(0, 1), on(math.MaxInt, 2)), goneOn(math.MaxInt), intent(1, on(0, 1), goneOn(math.MaxInt))},
	} {
		if out, e := chain.Put(c.in, c.w); e != api.OK || !sameIntent(out, c.want) {
			t.Errorf("Put%s on %d = %s, %d, want %s", shownIntent(c.in), c.w.Level, shownIntent(out), e, shownIntent(c.want))
		}
	}
}

// Ch4: Back, of all intents with levels up to 4, to all levels.
func TestBackOfAll(t *testing.T) {
	for _, in := range allIntents(3, 4) {
		for _, level := range []int{math.MinInt, -1, 0, 1, 2, 3, 4, 5, math.MaxInt} {
			m, _ := byLevel(in)
			want := risen(in.Txn, m, max(min(level, 10), 0)-1)
			if len(want.Writes) == 0 {
				want = api.Intent{}
			}
			if out := chain.Back(in, level); !sameIntent(out, want) {
				t.Errorf("Back%s to %d = %s, want %s", shownIntent(in), level, shownIntent(out), shownIntent(want))
			}
		}
	}
}

// Ch4: Back of the last level takes a write there, and leaves those below it.
func TestBackEnds(t *testing.T) {
	in := intent(1, on(0, 1), on(math.MaxInt-1, 2), on(math.MaxInt, 3))
	if out := chain.Back(in, math.MaxInt); !sameIntent(out, intent(1, on(0, 1), on(math.MaxInt-1, 2))) {
		t.Errorf("Back to the last level = %s", shownIntent(out))
	}
	if out := chain.Back(intent(1), 3); !sameIntent(out, api.Intent{}) {
		t.Errorf("Back of an intent that begins = %s", shownIntent(out))
	}
}

// Ch4: Fold, of all intents with levels up to 4, of all levels.
func TestFoldOfAll(t *testing.T) {
	for _, in := range allIntents(3, 4) {
		for _, level := range []int{1, 2, 3, 4, 5, 6, math.MaxInt} {
			m, top := byLevel(in)
			want := in
			if top >= level {
				m[level-1] = m[top]
				want = risen(3, m, level-1)
			}
			if out, e := chain.Fold(in, level); e != api.OK || !sameIntent(out, want) {
				t.Errorf("Fold%s of %d = %s, %d, want %s", shownIntent(in), level, shownIntent(out), e, shownIntent(want))
			}
		}
		for _, level := range []int{0, -1, math.MinInt} {
			if out, e := chain.Fold(in, level); e != api.ErrArg || !sameIntent(out, api.Intent{}) {
				t.Errorf("Fold%s of %d = %s, %d, want ErrArg", shownIntent(in), level, shownIntent(out), e)
			}
		}
	}
}

// Ch4: Fold of the last level.
func TestFoldEnds(t *testing.T) {
	last := math.MaxInt
	for _, c := range []struct{ in, want api.Intent }{
		{intent(1, on(0, 1), on(last, 2)), intent(1, on(0, 1), on(last-1, 2))},
		{intent(1, on(last-1, 1), goneOn(last)), intent(1, goneOn(last-1))},
		{intent(1, on(last-1, 1)), intent(1, on(last-1, 1))},
		{api.Intent{}, api.Intent{}},
	} {
		if out, e := chain.Fold(c.in, last); e != api.OK || !sameIntent(out, c.want) {
			t.Errorf("Fold%s = %s, %d, want %s", shownIntent(c.in), shownIntent(out), e, shownIntent(c.want))
		}
	}
}

// Ch5: See, of all small lists and intents, by the intent's own, by another one and by nobody.
func TestSeeOfAll(t *testing.T) {
	for _, l := range allVersions(3) {
		for _, in := range allIntents(3, 2) {
			for _, txn := range []int{math.MinInt, -3, 0, 1, 3, 4, math.MaxInt} {
				for stamp := range uint64(5) {
					var want []api.Value
					there := false
					if n := newest(l, stamp); n >= 0 && !l[n].Gone {
						want, there = l[n].Row, true
					}
					if txn == 3 && in.Txn == 3 {
						last := in.Writes[len(in.Writes)-1]
						want, there = last.Row, !last.Gone
					}
					if got, ok := chain.See(l, in, txn, stamp); ok != there || !sameRow(got, want) {
						t.Errorf("See%s %s by %d at %d = %s, %v", shown(l), shownIntent(in), txn, stamp, shownRow(false, got), ok)
					}
				}
			}
		}
	}
}

// Ch5: what is seen of nothing, of rows without values, of an intent without writes, and by numbers that are nobody's.
func TestSeeEdges(t *testing.T) {
	l := versions(at(9, 2), goneAt(7), at(4, 1))
	empty := versions(api.Version{Stamp: 4})
	for _, c := range []struct {
		l     []api.Version
		in    api.Intent
		txn   int
		stamp uint64
		want  []api.Value
		there bool
	}{
		{nil, api.Intent{}, 0, math.MaxUint64, nil, false},
		{nil, intent(3, on(0, 8)), 3, 0, row(8), true},
		{nil, intent(3, on(0, 8)), 2, math.MaxUint64, nil, false},
		{nil, intent(3, on(0, 8)), 0, math.MaxUint64, nil, false},
		{l, api.Intent{}, 0, api.MaxStamp, row(2), true},
		{l, api.Intent{}, 0, math.MaxUint64, row(2), true},
		{l, api.Intent{}, 0, 0, nil, false},
		{l, api.Intent{}, 1, 5, row(1), true},
		{l, intent(3, on(0, 8), goneOn(1)), 3, 5, nil, false},
		{l, intent(3, goneOn(0), on(1, 8)), 3, 8, row(8), true},
		{l, intent(3), 3, 5, row(1), true},
		{l, intent(0, on(0, 8)), 0, 5, row(1), true},
		{l, intent(-3, on(0, 8)), -3, 5, row(1), true},
		{empty, api.Intent{}, 0, 4, nil, true},
		{empty, api.Intent{}, 0, 3, nil, false},
		{nil, intent(3, api.Write{}), 3, 4, nil, true},
	} {
		if got, there := chain.See(c.l, c.in, c.txn, c.stamp); there != c.there || !sameRow(got, c.want) {
			t.Errorf("See%s %s by %d at %d = %s, %v", shown(c.l), shownIntent(c.in), c.txn, c.stamp, shownRow(false, got), there)
		}
	}
}
