package sets_test

import (
	"fmt"
	"math/rand/v2"
	"slices"
	"strings"
	"testing"

	"vellum/api"
	"vellum/sets"
)

func wants[T comparable](t *testing.T, what string, got, want T) {
	t.Helper()
	if got != want {
		t.Fatalf("%s: %v, want %v", what, got, want)
	}
}

func point(table, index int, key string) api.Point {
	return api.Point{Table: table, Index: index, Key: key}
}

func span(table, index int, r api.Range) api.Span {
	return api.Span{Table: table, Index: index, Range: r}
}

func upTo(lo, hi string) api.Range { return api.Range{Lo: lo, Hi: hi} }

func onwards(lo string) api.Range { return api.Range{Lo: lo, Open: true} }

// keys is points of table 0's key.
func keys(l ...string) []api.Point {
	var points []api.Point
	for _, key := range l {
		points = append(points, point(0, -1, key))
	}
	return points
}

// ranges is spans of table 0's key.
func ranges(l ...api.Range) []api.Span {
	var spans []api.Span
	for _, r := range l {
		spans = append(spans, span(0, -1, r))
	}
	return spans
}

func same(a, b api.Foot) bool {
	return slices.Equal(a.Points, b.Points) && slices.Equal(a.Spans, b.Spans) && slices.Equal(a.Writes, b.Writes)
}

// shown is a foot in which all is told apart, but nil and the empty list.
func shown(f api.Foot) string {
	var text strings.Builder
	text.WriteString("read")
	for _, p := range f.Points {
		fmt.Fprintf(&text, " %d/%d/%q", p.Table, p.Index, p.Key)
	}
	for _, s := range f.Spans {
		fmt.Fprintf(&text, " %d/%d/%q-%q/%v", s.Table, s.Index, s.Range.Lo, s.Range.Hi, s.Range.Open)
	}
	text.WriteString(" written")
	for _, p := range f.Writes {
		fmt.Fprintf(&text, " %d/%d/%q", p.Table, p.Index, p.Key)
	}
	return text.String()
}

func wantsFoot(t *testing.T, what string, got, want api.Foot) {
	t.Helper()
	if !same(got, want) {
		t.Fatalf("%s: %s, want %s", what, shown(got), shown(want))
	}
}

func normed(t *testing.T, f api.Foot) api.Foot {
	t.Helper()
	n, err := sets.Norm(f)
	if err != api.OK {
		t.Fatalf("Norm of %s: error %d", shown(f), err)
	}
	return n
}

func merged(t *testing.T, a, b api.Foot) api.Foot {
	t.Helper()
	m, err := sets.Merge(a, b)
	if err != api.OK {
		t.Fatalf("Merge of %s and %s: error %d", shown(a), shown(b), err)
	}
	return m
}

// world is the keys, tables and indexes of which random feet are made: keys that lie nearest to each other among them.
type world struct {
	*rand.Rand
	keys    []string
	tables  []int
	indexes []int
}

func newWorld(seed uint64) world {
	return world{
		rand.New(rand.NewPCG(seed, 17)),
		[]string{"", "\x00", "a", "a\x00", "a\x00\x00", "a\x01", "a\xff", "b", "b\x00", "c", "\xff", "\xff\xff"},
		[]int{0, 1, 63},
		[]int{-1, 0, 15},
	}
}

// points is all points of the world.
func (w world) points() []api.Point {
	var l []api.Point
	for _, table := range w.tables {
		for _, index := range w.indexes {
			for _, key := range w.keys {
				l = append(l, point(table, index, key))
			}
		}
	}
	return l
}

func (w world) key() string { return w.keys[w.IntN(len(w.keys))] }

// place is often the same one: else few points would meet.
func (w world) place() (int, int) {
	if w.IntN(2) == 0 {
		return w.tables[0], w.indexes[0]
	}
	return w.tables[w.IntN(len(w.tables))], w.indexes[w.IntN(len(w.indexes))]
}

func (w world) some(most int) []api.Point {
	var l []api.Point
	for range w.IntN(most + 1) {
		table, index := w.place()
		l = append(l, point(table, index, w.key()))
	}
	return l
}

// foot has up to 6 points, 4 spans and 6 writes; spans without keys, of one key, and open ones with an Hi among them.
func (w world) foot() api.Foot {
	f := api.Foot{Points: w.some(6), Writes: w.some(6)}
	for range w.IntN(5) {
		table, index := w.place()
		f.Spans = append(f.Spans, span(table, index, api.Range{Lo: w.key(), Hi: w.key(), Open: w.IntN(8) == 0}))
	}
	return f
}

// shuffled is a foot with the same points, spans and writes in another order, and some of them twice.
func (w world) shuffled(f api.Foot) api.Foot {
	return api.Foot{Points: mixed(w, f.Points), Spans: mixed(w, f.Spans), Writes: mixed(w, f.Writes)}
}

func mixed[T any](w world, l []T) []T {
	more := slices.Clone(l)
	for _, x := range l {
		if w.IntN(3) == 0 {
			more = append(more, x)
		}
	}
	w.Shuffle(len(more), func(i, j int) { more[i], more[j] = more[j], more[i] })
	return more
}
