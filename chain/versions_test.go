package chain_test

import (
	"math"
	"testing"

	"vellum/api"
	"vellum/chain"
	"vellum/lit"
)

// Examples 1 and 2 of the chapter: a row a at 4, gone at 7, b at 9.
func TestExamples(t *testing.T) {
	l := versions(at(9, 'b'), goneAt(7), at(4, 'a'))
	for stamp, want := range map[uint64]int{3: -1, 4: 2, 8: 1, 9: 0} {
		if n := chain.At(l, stamp); n != want {
			t.Errorf("At(%d) = %d, want %d", stamp, n, want)
		}
	}
	if _, there := chain.See(l, api.Intent{}, 0, 8); there {
		t.Error("at 8 a row is seen that is gone")
	}
	if all, e := chain.Install(l, at(9, 'c')); e != api.ErrOlder || len(all) != 0 {
		t.Errorf("Install of 9 = %s, %d", shown(all), e)
	}
	want := versions(at(10, 'c'), at(9, 'b'), goneAt(7), at(4, 'a'))
	if all, e := chain.Install(l, at(10, 'c')); e != api.OK || !sameVersions(all, want) {
		t.Errorf("Install of 10 = %s, %d", shown(all), e)
	}
	for place, want := range map[int][2]uint64{2: {4, 7}, 0: {9, 0}} {
		if from, to, e := chain.Life(l, place); from != want[0] || to != want[1] || e != api.OK {
			t.Errorf("Life(%d) = %d, %d, %d", place, from, to, e)
		}
	}
	for _, c := range []struct {
		floor uint64
		want  []api.Version
		gone  int
	}{{8, versions(at(9, 'b')), 2}, {5, l, 0}, {20, versions(at(9, 'b')), 2}} {
		if left, n := chain.Prune(l, c.floor); !sameVersions(left, c.want) || n != c.gone {
			t.Errorf("Prune at %d = %s, %d", c.floor, shown(left), n)
		}
	}
}

// Ch1: Check, of what may stand so and what may not, at the edges of stamps and of order.
func TestCheck(t *testing.T) {
	noRow := api.Version{Stamp: 3, Gone: true, Row: []api.Value{}}
	for _, c := range []struct {
		l    []api.Version
		want api.Errno
	}{
		{nil, api.OK},
		{versions(), api.OK},
		{versions(at(1, 1)), api.OK},
		{versions(at(api.MaxStamp, 1)), api.OK},
		{versions(at(api.MaxStamp, 1), at(api.MaxStamp-1, 1), at(1, 1)), api.OK},
		{versions(goneAt(1)), api.OK},
		{versions(goneAt(3), goneAt(2), goneAt(1)), api.OK},
		{versions(noRow), api.OK},
		{versions(api.Version{Stamp: 3}), api.OK}, // a row without values is one too
		{versions(at(0, 1)), api.ErrChain},
		{versions(goneAt(0)), api.ErrChain},
		{versions(at(1, 1), at(0, 1)), api.ErrChain},
		{versions(at(api.MaxStamp+1, 1)), api.ErrChain},
		{versions(at(api.MaxStamp+1, 1), at(5, 1)), api.ErrChain},
		{versions(at(math.MaxUint64, 1)), api.ErrChain},
		{versions(at(4, 1), at(4, 2)), api.ErrChain},
		{versions(at(4, 1), at(5, 2)), api.ErrChain},
		{versions(at(9, 1), at(4, 2), at(4, 3)), api.ErrChain},
		{versions(at(9, 1), at(4, 2), at(5, 3)), api.ErrChain},
		{versions(at(9, 1), at(4, 2), at(9, 3)), api.ErrChain},
		{versions(goneAt(4), goneAt(4)), api.ErrChain},
		{versions(api.Version{Stamp: 4, Gone: true, Row: row(1)}), api.ErrChain},
		{versions(at(4, 1), api.Version{Stamp: 3, Gone: true, Row: []api.Value{lit.Null()}}), api.ErrChain},
	} {
		if e := chain.Check(c.l); e != c.want {
			t.Errorf("Check%s = %d, want %d", shown(c.l), e, c.want)
		}
	}
}

// Ch1: Install of what may not be, of what is older, and which error is told first.
func TestInstallRefuses(t *testing.T) {
	l := versions(at(9, 1), goneAt(7), at(4, 2))
	bad := api.Version{Stamp: 12, Gone: true, Row: row(1)}
	for _, c := range []struct {
		l    []api.Version
		v    api.Version
		want api.Errno
	}{
		{l, at(9, 3), api.ErrOlder},
		{l, at(8, 3), api.ErrOlder},
		{l, at(4, 3), api.ErrOlder},
		{l, at(1, 3), api.ErrOlder},
		{l, goneAt(9), api.ErrOlder},
		{versions(at(api.MaxStamp, 1)), at(api.MaxStamp, 2), api.ErrOlder},
		{l, at(0, 3), api.ErrChain},
		{l, goneAt(0), api.ErrChain},
		{l, at(api.MaxStamp+1, 3), api.ErrChain},
		{l, at(math.MaxUint64, 3), api.ErrChain},
		{l, bad, api.ErrChain},
		{nil, bad, api.ErrChain},
		{nil, at(0, 1), api.ErrChain},
		{nil, api.Version{}, api.ErrChain},
		{l, api.Version{Stamp: 5, Gone: true, Row: row(1)}, api.ErrChain},
		{versions(at(4, 1), at(4, 1)), at(9, 1), api.ErrChain},
		{versions(at(4, 1), at(5, 1)), at(9, 1), api.ErrChain},
		{versions(at(4, 1), at(5, 1)), at(3, 1), api.ErrChain},
		{versions(at(api.MaxStamp+1, 1)), at(9, 1), api.ErrChain},
		{versions(at(4, 1), at(0, 1)), at(9, 1), api.ErrChain},
		{versions(at(11, 1), bad), at(13, 1), api.ErrChain},
	} {
		if all, e := chain.Install(c.l, c.v); e != c.want || len(all) != 0 {
			t.Errorf("Install%s of %s = %s, %d, want %d", shown(c.l), shown(versions(c.v)), shown(all), e, c.want)
		}
	}
}

// Ch1: Install of a first version, and of a newest one, at the last stamps too.
func TestInstallLets(t *testing.T) {
	for _, c := range []struct {
		l []api.Version
		v api.Version
	}{
		{nil, at(1, 1)},
		{versions(), goneAt(1)},
		{nil, at(api.MaxStamp, 1)},
		{versions(at(1, 1)), at(2, 1)},
		{versions(goneAt(1)), goneAt(2)},
		{versions(at(api.MaxStamp-1, 1)), goneAt(api.MaxStamp)},
		{versions(at(9, 1), at(3, 1)), api.Version{Stamp: 10}},
		{versions(at(9, 1), at(3, 1)), api.Version{Stamp: 10, Gone: true, Row: []api.Value{}}},
	} {
		all, e := chain.Install(c.l, c.v)
		if e != api.OK || !sameVersions(all, append(versions(c.v), c.l...)) || chain.Check(all) != api.OK {
			t.Errorf("Install%s of %s = %s, %d", shown(c.l), shown(versions(c.v)), shown(all), e)
		}
	}
}

// newest is the place of the version with the greatest stamp that is at most stamp; -1: there is none.
func newest(l []api.Version, stamp uint64) int {
	found := -1
	for i := range l {
		if l[i].Stamp <= stamp && (found < 0 || l[i].Stamp > l[found].Stamp) {
			found = i
		}
	}
	return found
}

// Ch1: At, of all lists with stamps up to 6, at all stamps.
func TestAtOfAll(t *testing.T) {
	for _, l := range allVersions(6) {
		for _, stamp := range []uint64{0, 1, 2, 3, 4, 5, 6, 7, api.MaxStamp, math.MaxUint64} {
			if n := chain.At(l, stamp); n != newest(l, stamp) {
				t.Errorf("At%s of %d = %d, want %d", shown(l), stamp, n, newest(l, stamp))
			}
		}
	}
}

// Ch1: At, where stamps are at their ends.
func TestAtEnds(t *testing.T) {
	l := versions(at(api.MaxStamp, 1), at(api.MaxStamp-1, 2), at(1, 3))
	for stamp, want := range map[uint64]int{0: -1, 1: 2, api.MaxStamp - 2: 2, api.MaxStamp - 1: 1, api.MaxStamp: 0, math.MaxUint64: 0} {
		if n := chain.At(l, stamp); n != want {
			t.Errorf("At(%d) = %d, want %d", stamp, n, want)
		}
		if n := chain.At(nil, stamp); n != -1 {
			t.Errorf("At of nothing at %d = %d", stamp, n)
		}
	}
}

// Ch2: Prune, of all lists with stamps up to 6, at all floors.
func TestPruneOfAll(t *testing.T) {
	for _, l := range allVersions(6) {
		for _, floor := range []uint64{0, 1, 2, 3, 4, 5, 6, 7, api.MaxStamp, math.MaxUint64} {
			var want []api.Version
			for _, v := range l {
				if v.Stamp > floor {
					want = append(want, v)
				}
			}
			if n := newest(l, floor); n >= 0 && !l[n].Gone {
				want = append(want, l[n])
			}
			if left, n := chain.Prune(l, floor); !sameVersions(left, want) || n != len(l)-len(want) {
				t.Errorf("Prune%s at %d = %s, %d, want %s", shown(l), floor, shown(left), n, shown(want))
			}
		}
	}
}

// Ch2: what is left of nothing, of one that is gone alone, and at the last stamps.
func TestPruneEnds(t *testing.T) {
	top := versions(at(api.MaxStamp, 1), at(api.MaxStamp-1, 2), goneAt(1))
	for _, c := range []struct {
		l     []api.Version
		floor uint64
		want  []api.Version
		gone  int
	}{
		{nil, 5, nil, 0},
		{nil, 0, nil, 0},
		{versions(goneAt(5)), 4, versions(goneAt(5)), 0},
		{versions(goneAt(5)), 5, nil, 1},
		{versions(at(5, 1)), 5, versions(at(5, 1)), 0},
		{versions(goneAt(7), at(5, 1)), 6, versions(goneAt(7), at(5, 1)), 0},
		{versions(goneAt(7), at(5, 1)), 7, nil, 2},
		{versions(goneAt(7), goneAt(5), at(3, 1)), 6, versions(goneAt(7)), 2},
		{top, api.MaxStamp, top[:1], 2},
		{top, math.MaxUint64, top[:1], 2},
		{top, api.MaxStamp - 1, top[:2], 1},
		{top, api.MaxStamp - 2, top[:2], 1},
		{top, 0, top, 0},
	} {
		if left, n := chain.Prune(c.l, c.floor); !sameVersions(left, c.want) || n != c.gone {
			t.Errorf("Prune%s at %d = %s, %d, want %s, %d", shown(c.l), c.floor, shown(left), n, shown(c.want), c.gone)
		}
	}
}

// Ch3: Life, of each place of all lists with stamps up to 5, and of places that are none.
func TestLifeOfAll(t *testing.T) {
	for _, l := range allVersions(5) {
		for place, v := range l {
			want := uint64(0)
			if place > 0 {
				want = l[place-1].Stamp
			}
			if from, to, e := chain.Life(l, place); from != v.Stamp || to != want || e != api.OK {
				t.Errorf("Life%s of %d = %d, %d, %d", shown(l), place, from, to, e)
			}
		}
		for _, place := range []int{-1, len(l), len(l) + 1, math.MinInt, math.MaxInt} {
			if from, to, e := chain.Life(l, place); from != 0 || to != 0 || e != api.ErrNone {
				t.Errorf("Life%s of %d = %d, %d, %d, want ErrNone", shown(l), place, from, to, e)
			}
		}
	}
}

// Life looks at the list alone, not at what lies in the room behind its end.
func TestLifeBehindTheEnd(t *testing.T) {
	l := versions(at(9, 1), at(4, 2))[:1]
	if from, to, e := chain.Life(l, 1); from != 0 || to != 0 || e != api.ErrNone {
		t.Errorf("Life behind the end = %d, %d, %d, want ErrNone", from, to, e)
	}
}

// Ch3: Changed, of all lists with stamps up to 5, between all stamps: also where the first is not below the second.
func TestChangedOfAll(t *testing.T) {
	for _, l := range allVersions(5) {
		for behind := range uint64(8) {
			for to := range uint64(8) {
				want := false
				for stamp := behind + 1; stamp <= to; stamp++ {
					if n := newest(l, stamp); n >= 0 && l[n].Stamp == stamp {
						want = true
					}
				}
				if chain.Changed(l, behind, to) != want {
					t.Errorf("Changed%s behind %d to %d, want %v", shown(l), behind, to, want)
				}
			}
		}
	}
}

// Ch3: Changed, at the last stamps.
func TestChangedEnds(t *testing.T) {
	l := versions(at(api.MaxStamp, 1), goneAt(1))
	for _, c := range []struct {
		behind, to uint64
		want       bool
	}{
		{0, 0, false}, {0, 1, true}, {1, 1, false}, {1, api.MaxStamp - 1, false}, {1, api.MaxStamp, true},
		{api.MaxStamp - 1, api.MaxStamp, true}, {api.MaxStamp, math.MaxUint64, false}, {0, math.MaxUint64, true},
		{math.MaxUint64, 0, false}, {math.MaxUint64, math.MaxUint64, false},
	} {
		if chain.Changed(l, c.behind, c.to) != c.want || chain.Changed(nil, c.behind, c.to) {
			t.Errorf("Changed behind %d to %d, want %v", c.behind, c.to, c.want)
		}
	}
}
