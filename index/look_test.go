package index_test

import (
	"fmt"
	"math"
	"testing"

	"vellum/api"
	"vellum/lit"
	"vellum/store"
)

// Examples 1 and 2.
func TestExamples(t *testing.T) {
	s := newStore(t, 8)
	added(t, s, 1, pair(1, 5))
	settled(t, s, 1, 4)
	x := built(t, table(), 0, s)
	five, six := keyOf(t, lit.Int(5), lit.Int(1)), keyOf(t, lit.Int(6), lit.Int(1))
	wants(t, "Find", shownHits(x.Find(all(), false, 9)), shownHits([]api.Hit{{Key: five}}))
	written(t, s, 0, 2, api.Write{Row: pair(1, 6)}, 9)
	put(t, x, pair(1, 6), 0)
	wants(t, "Find", shownHits(x.Find(all(), false, 9)), shownHits([]api.Hit{{Key: five}, {Key: six}}))
	for _, v := range []api.View{{Stamp: 4}, {Txn: 1, Stamp: 4}, {Txn: 3, Stamp: 9}, {Txn: -2, Stamp: math.MaxUint64}} {
		wants(t, fmt.Sprint(v), shownSeen(x.Look(s, v, all(), false, 9)), shownSeen([]api.Seen{{Key: five, Row: pair(1, 5)}}))
	}
	for _, stamp := range []uint64{0, 3, 4, 9} {
		wants(t, "its own", shownSeen(x.Look(s, api.View{Txn: 2, Stamp: stamp}, all(), false, 9)), shownSeen([]api.Seen{{Key: six, Row: pair(1, 6)}}))
	}
	sees(t, x, s, api.View{Stamp: 3}, "")
	settled(t, s, 2, 7)
	sees(t, x, s, api.View{Stamp: 6}, "0: 1 5")
	sees(t, x, s, api.View{Stamp: 7}, "0: 1 6")
	s.Prune(7)
	wants(t, "Sweep", x.Sweep(s), 1)
	wants(t, "Find", shownHits(x.Find(all(), false, 9)), shownHits([]api.Hit{{Key: six}}))
}

// In3: the rows stand in the order of their entries, either way, the first most of those that are seen.
func TestLookInOrder(t *testing.T) {
	s := filled(t, pair(0, 7), pair(1, -3), pair(2, 7), pair(3, 0), pair(4, 2))
	x := built(t, table(), 0, s)
	written(t, s, 3, 1, api.Write{Gone: true}, 1)
	settled(t, s, 1, 2)
	v := api.View{Stamp: 2}
	for _, c := range []struct {
		back bool
		most int
		want string
	}{
		{false, many, "1: 1 -3, 4: 4 2, 0: 0 7, 2: 2 7"},
		{false, math.MaxInt, "1: 1 -3, 4: 4 2, 0: 0 7, 2: 2 7"},
		{true, math.MaxInt, "2: 2 7, 0: 0 7, 4: 4 2, 1: 1 -3"},
		{false, 4, "1: 1 -3, 4: 4 2, 0: 0 7, 2: 2 7"},
		{false, 2, "1: 1 -3, 4: 4 2"},
		{true, 1, "2: 2 7"},
		{false, 0, ""},
		{true, -1, ""},
		{false, math.MinInt, ""},
	} {
		wants(t, fmt.Sprintf("Look(%v, %d)", c.back, c.most), pairs(x.Look(s, v, all(), c.back, c.most)), c.want)
	}
}

// In3: it is the entry's key that must be in the range.
func TestLookInRanges(t *testing.T) {
	s := filled(t, pair(0, 10), pair(1, 20), pair(2, 30), pair(3, 40))
	x := built(t, table(), 0, s)
	from, to := keyOf(t, lit.Int(20)), keyOf(t, lit.Int(40), lit.Int(3))
	v := api.View{Stamp: 1}
	wants(t, "Look", pairs(x.Look(s, v, api.Range{Lo: from, Hi: to}, false, 9)), "1: 1 20, 2: 2 30")
	wants(t, "Look back", pairs(x.Look(s, v, api.Range{Lo: from, Hi: to}, true, 9)), "2: 2 30, 1: 1 20")
	wants(t, "Look, open", pairs(x.Look(s, v, api.Range{Lo: from, Hi: to, Open: true}, false, 9)), "1: 1 20, 2: 2 30, 3: 3 40")
	wants(t, "Look back, open", pairs(x.Look(s, v, api.Range{Lo: from, Hi: to, Open: true}, true, 1)), "3: 3 40")
	wants(t, "Look in nothing", pairs(x.Look(s, v, api.Range{Lo: to, Hi: from}, false, 9)), "")
	wants(t, "Look in the zero range", pairs(x.Look(s, v, api.Range{}, true, 9)), "")
	written(t, s, 1, 5, api.Write{Row: pair(1, 90)}, 1)
	put(t, x, pair(1, 90), 1)
	wants(t, "Look of one that moved", pairs(x.Look(s, api.View{Txn: 5, Stamp: 1}, api.Range{Lo: from, Hi: to}, false, 9)), "2: 2 30")
	wants(t, "Look of the others", pairs(x.Look(s, v, api.Range{Lo: from, Hi: to}, false, 9)), "1: 1 20, 2: 2 30")
}

// moved is a store with one row that was there under so many keys, of which an index has all.
func moved(t *testing.T, often int) *store.Store {
	t.Helper()
	s := filled(t, pair(0, 0), pair(1, int64(often)))
	for i := range often {
		written(t, s, 0, 1, api.Write{Row: pair(0, int64(i+1))}, uint64(i+1))
		settled(t, s, 1, uint64(i+2))
	}
	return s
}

// In3: few that are wanted are found behind many entries through which nothing is seen, either way.
func TestLookFarAhead(t *testing.T) {
	const often = 300
	s := moved(t, often)
	x := built(t, table(), 0, s)
	wants(t, "entries", len(x.Find(all(), false, many)), often+2)
	for at := range uint64(often + 1) {
		v := api.View{Stamp: at + 1}
		own, other := fmt.Sprintf("0: 0 %d", at), fmt.Sprintf("1: 1 %d", often)
		wants(t, "the first one", pairs(x.Look(s, v, all(), false, 1)), own)
		wants(t, "both", pairs(x.Look(s, v, all(), false, 2)), own+", "+other)
		wants(t, "all", pairs(x.Look(s, v, all(), false, 3)), own+", "+other)
		wants(t, "the first one back", pairs(x.Look(s, v, all(), true, 1)), other)
		wants(t, "both back", pairs(x.Look(s, v, all(), true, 2)), other+", "+own)
		upTo := api.Range{Hi: keyOf(t, lit.Int(often))}
		want := own
		if at == often {
			want = ""
		}
		wants(t, "the first one in a range", pairs(x.Look(s, v, upTo, at%2 == 0, 1)), want)
		behind := api.Range{Lo: keyOf(t, lit.Int(int64(at)), lit.Int(1)), Hi: keyOf(t, lit.Int(often), lit.Int(1))}
		wants(t, "nothing behind it", pairs(x.Look(s, v, behind, at%2 == 0, 1)), "")
		ahead := api.Range{Hi: keyOf(t, lit.Int(int64(at)))}
		wants(t, "nothing ahead of it", pairs(x.Look(s, v, ahead, at%2 == 0, 1)), "")
	}
}

// In3: what the words say of a store that is another one's: a row is seen, if its key is the entry's.
func TestLookInAnotherStore(t *testing.T) {
	s := filled(t, pair(1, 5), pair(2, 6), pair(3, 7))
	x := built(t, table(), 0, s)
	v := api.View{Stamp: 1}
	wants(t, "Look with nil", len(x.Look(nil, v, all(), false, 9)), 0)
	wants(t, "Look in an empty one", len(x.Look(newStore(t, 1), v, all(), true, 9)), 0)
	other := filled(t, pair(1, 5), pair(3, 7), pair(3, 7))
	sees(t, x, other, v, "0: 1 5, 2: 3 7")
	put(t, x, pair(9, 9), math.MaxInt)
	sees(t, x, s, v, "0: 1 5, 1: 2 6, 2: 3 7")
	strange := filled(t, pair(1, 5), pair(2, 6)[:1], []api.Value{lit.Text("x"), lit.Null()})
	sees(t, x, strange, v, "0: 1 5")
}

// In3: -0 and NaNs have one key each: what is told is the row as it is, bit by bit.
func TestLookTellsTheRowsBits(t *testing.T) {
	zero, odd := lit.Float(math.Copysign(0, -1)), lit.Bits(0xFFF8000000000123)
	row := func(a int64, c api.Value) []api.Value {
		return []api.Value{lit.Int(a), lit.Null(), c, lit.Text("d")}
	}
	s := filled(t, row(1, zero), row(2, odd))
	x := built(t, wide(), 1, s)
	l := x.Look(s, api.View{Stamp: 1}, all(), false, 9)
	if len(l) != 2 || math.Float64bits(l[0].Row[2].F) != 1<<63 || math.Float64bits(l[1].Row[2].F) != 0xFFF8000000000123 {
		t.Fatalf("Look: %v", l)
	}
	written(t, s, 0, 1, api.Write{Row: row(1, lit.Float(0))}, 1)
	settled(t, s, 1, 2)
	put(t, x, row(1, lit.Float(0)), 0)
	wants(t, "entries", len(x.Find(all(), false, 9)), 2)
	l = x.Look(s, api.View{Stamp: 2}, all(), false, 9)
	if len(l) != 2 || math.Float64bits(l[0].Row[2].F) != 0 {
		t.Fatalf("Look: %v", l)
	}
}
