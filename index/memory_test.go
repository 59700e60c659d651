package index_test

import (
	"fmt"
	"reflect"
	"slices"
	"testing"

	"vellum/api"
	"vellum/index"
	"vellum/lit"
)

// soil writes into all of a list's memory, with the room behind its end.
func soil[T any](l []T, with T) {
	l = l[:cap(l)]
	for i := range l {
		l[i] = with
	}
}

// soilTable leaves nothing of a table's lists as it was.
func soilTable(t api.Table) {
	for _, x := range t.Indexes {
		soil(x.Columns, 77)
	}
	for _, x := range t.Refs {
		soil(x.Columns, 77)
	}
	soil(t.Columns, api.Column{Name: "soiled"})
	soil(t.Key, 77)
	soil(t.Indexes, api.Index{Name: "soiled"})
	soil(t.Refs, api.Ref{Table: "soiled"})
}

// roomyTable is wide with room behind the ends of its lists, in which something lies.
func roomyTable() api.Table {
	t := wide()
	t.Columns = append(t.Columns, api.Column{Name: "behind"})[:4]
	t.Key = append(t.Key, 99)[:2]
	t.Indexes = append(t.Indexes, api.Index{Name: "behind"})[:3]
	for i := range t.Indexes {
		columns := t.Indexes[i].Columns
		t.Indexes[i].Columns = append(columns, 99)[:len(columns)]
	}
	t.Refs = append(t.Refs, api.Ref{Table: "behind"})[:1]
	return t
}

// whole is all of a table, with the room behind its lists.
func whole(t api.Table) string {
	text := fmt.Sprint(t.Columns[:cap(t.Columns)], t.Key[:cap(t.Key)], t.Indexes[:cap(t.Indexes)], t.Refs[:cap(t.Refs)])
	for _, x := range t.Indexes {
		text += fmt.Sprint(x.Columns[:cap(x.Columns)])
	}
	return text
}

func wideRow(a int64, b string) []api.Value {
	return []api.Value{lit.Int(a), lit.Text(b), lit.Float(1.5), lit.Text("d"), lit.Int(66)}[:4]
}

// R3: neither tables nor rows are changed or kept; nor what lies behind their ends.
func TestArgumentsAreNotKept(t *testing.T) {
	s := filled(t, wideRow(1, "x"), wideRow(2, "y"))
	v := api.View{Stamp: 1}
	for n := -1; n < 3; n++ {
		tab := roomyTable()
		was := whole(tab)
		x, y, l := newIndex(t, tab, n), built(t, tab, n, s), index.Later(tab, n, s)
		for i, b := range []string{"x", "y"} {
			row := wideRow(int64(i+1), b)
			put(t, x, row, i)
			if !slices.Equal(row[:5], wideRow(int64(i+1), b)[:5]) {
				t.Errorf("the row is %v", row[:5])
			}
			soil(row, lit.Null())
		}
		index.Crowd(tab, n, s, v, 2)
		wants(t, "the table", whole(tab), was)
		soilTable(tab)
		want := shownSeen(y.Look(s, v, all(), false, 9))
		wants(t, "rows", len(y.Look(s, v, all(), false, 9)), 2)
		wants(t, "Look", shownSeen(x.Look(s, v, all(), false, 9)), want)
		wants(t, "Look in the one that was built later", shownSeen(got(t, l).Look(s, v, all(), false, 9)), want)
		for _, z := range []*index.Index{x, y, got(t, l)} {
			wants(t, "Put", z.Put(wideRow(3, "z"), 7), api.OK)
			wants(t, "Put of a short one", z.Put(wideRow(3, "z")[:2], 7), api.ErrArg)
			wants(t, "Sweep", z.Sweep(s), 1)
		}
	}
}

// R3: whoever soils what was told changes nothing; no two lists of an answer share memory.
func TestAnswersShareNothing(t *testing.T) {
	s := filled(t, pair(0, 7), pair(1, 6), pair(2, 5))
	x := built(t, table(), 0, s)
	v := api.View{Stamp: 1}
	hits, want := shownHits(x.Find(all(), false, 9)), "2: 2 5, 1: 1 6, 0: 0 7"
	kept := x.Look(s, v, all(), false, 9)
	for range 3 {
		soil(x.Find(all(), false, 9), api.Hit{Key: "soiled", Slot: 99})
		l := x.Look(s, v, all(), false, 9)
		for i := range l {
			soil(l[i].Row, lit.Text("soiled"))
			wants(t, "the rows behind it", pairs(l[i+1:]), pairs(kept[i+1:]))
		}
		soil(l, api.Seen{Slot: 99})
		crowd, _, _ := index.Crowd(table(), 0, s, v, 3)
		for i := range crowd {
			for j := range crowd[i] {
				soil(crowd[i][j].Row, lit.Text("soiled"))
			}
			soil(crowd[i], api.Seen{Slot: 99})
			for _, other := range crowd[i+1:] {
				wants(t, "what another one saw", pairs(other), want)
			}
		}
		wants(t, "Find", shownHits(x.Find(all(), false, 9)), hits)
		sees(t, x, s, v, want)
		wants(t, "what was told", pairs(kept), want)
	}
}

// R3: what was told stays as it was told, whatever comes behind it.
func TestAnswersStay(t *testing.T) {
	s := filled(t, pair(0, 7), pair(1, 6))
	x := built(t, table(), 0, s)
	hits, seen := x.Find(all(), false, 9), x.Look(s, api.View{Stamp: 1}, all(), false, 9)
	was := shownHits(hits) + pairs(seen)
	put(t, x, pair(0, 1), 0)
	written(t, s, 0, 1, api.Write{Row: pair(0, 1)}, 1)
	settled(t, s, 1, 2)
	s.Prune(2)
	wants(t, "Sweep", x.Sweep(s), 1)
	x.Sweep(nil)
	wants(t, "what was told", shownHits(hits)+pairs(seen), was)
}

// R3, R4: an index changes nothing of a store, and indexes know nothing of one another.
func TestStoresAndIndexesAreApart(t *testing.T) {
	s := filled(t, pair(0, 7), pair(1, 6))
	written(t, s, 1, 4, api.Write{Row: pair(1, 8)}, 1)
	state := func() []any { return []any{s.Slots(), s.Versions(0), s.Versions(1), s.Intent(0), s.Intent(1)} }
	was := state()
	x, y := built(t, table(), 0, s), built(t, table(), 0, s)
	x.Look(s, api.View{Txn: 4, Stamp: 1}, all(), false, 9)
	put(t, x, pair(5, 5), 5)
	x.Sweep(s)
	x.Sweep(nil)
	index.Crowd(table(), -1, s, api.View{Stamp: 1}, 4)
	if is := state(); !reflect.DeepEqual(is, was) {
		t.Errorf("the store is %v, was %v", is, was)
	}
	finds(t, y, all(), false, many, 1, 0, 1)
	finds(t, x, all(), false, many)
}
