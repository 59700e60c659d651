package valid_test

import (
	"fmt"
	"math/rand/v2"
	"slices"
	"strings"
	"testing"

	"vellum/api"
	"vellum/valid"
)

func wants[T comparable](t *testing.T, what string, got, want T) {
	t.Helper()
	if got != want {
		t.Fatalf("%s: %v, want %v", what, got, want)
	}
}

func point(table, index int, key string) api.Point {
	return api.Point{Table: table, Index: index, Key: key}
}

func span(table, index int, r api.Range) api.Span {
	return api.Span{Table: table, Index: index, Range: r}
}

func upTo(lo, hi string) api.Range { return api.Range{Lo: lo, Hi: hi} }

func onwards(lo string) api.Range { return api.Range{Lo: lo, Open: true} }

// row is a point of table 0's key.
func row(key string) api.Point { return point(0, -1, key) }

// keys is points of table 0's key, one for each letter.
func keys(letters string) []api.Point {
	var points []api.Point
	for _, c := range letters {
		points = append(points, row(string(c)))
	}
	return points
}

// foot reads and writes points of table 0's key, one for each letter.
func foot(reads, writes string) api.Foot {
	return api.Foot{Points: keys(reads), Writes: keys(writes)}
}

// over reads ranges of table 0's key.
func over(l ...api.Range) api.Foot {
	var f api.Foot
	for _, r := range l {
		f.Spans = append(f.Spans, span(0, -1, r))
	}
	return f
}

func clash(stamp uint64, p api.Point) api.Clash {
	return api.Clash{Stamp: stamp, Point: p}
}

// noted keeps a commit, which must not be refused.
func noted(t *testing.T, l *valid.Log, stamp uint64, f api.Foot) {
	t.Helper()
	if err := l.Note(stamp, f); err != api.OK {
		t.Fatalf("Note at %d: error %d", stamp, err)
	}
}

// logOf is a log with commits at the stamps 10, 20, 30 and so on.
func logOf(t *testing.T, feet ...api.Foot) *valid.Log {
	t.Helper()
	l := valid.New()
	for i, f := range feet {
		noted(t, l, uint64(10*(i+1)), f)
	}
	return l
}

func wantsStamps(t *testing.T, what string, l *valid.Log, want ...uint64) {
	t.Helper()
	if got := l.Stamps(); !slices.Equal(got, want) {
		t.Fatalf("%s: the stamps %v, want %v", what, got, want)
	}
}

// wantsClash holds what Read or Wrote tells against what is wanted: none, if the stamp is 0.
func wantsClash(t *testing.T, what string, got api.Clash, some bool, want api.Clash) {
	t.Helper()
	if got != want || some != (want.Stamp != 0) {
		t.Fatalf("%s: %+v, %v, want %+v", what, got, some, want)
	}
}

func wantsRead(t *testing.T, what string, l *valid.Log, f api.Foot, from uint64, want api.Clash) {
	t.Helper()
	got, some := l.Read(f, from)
	wantsClash(t, "Read of "+what, got, some, want)
}

func wantsWrote(t *testing.T, what string, l *valid.Log, f api.Foot, from uint64, want api.Clash) {
	t.Helper()
	got, some := l.Wrote(f, from)
	wantsClash(t, "Wrote of "+what, got, some, want)
}

func wantsTry(t *testing.T, what string, l *valid.Log, a api.Attempt, want api.Clash, err api.Errno) {
	t.Helper()
	got, gotErr := l.Try(a)
	if got != want || gotErr != err {
		t.Fatalf("Try of %s: %+v, error %d, want %+v, error %d", what, got, gotErr, want, err)
	}
}

func wantsFates(t *testing.T, what string, last uint64, l []api.Attempt, want ...api.Fate) {
	t.Helper()
	got, err := valid.Schedule(last, l)
	wants(t, "Schedule of "+what, err, api.OK)
	if !slices.Equal(got, want) {
		t.Fatalf("Schedule of %s behind %d: %+v, want %+v", what, last, got, want)
	}
}

// shown is a foot in which all is told apart, but nil and the empty list.
func shown(f api.Foot) string {
	var text strings.Builder
	text.WriteString("read")
	for _, p := range f.Points {
		fmt.Fprintf(&text, " %d/%d/%q", p.Table, p.Index, p.Key)
	}
	for _, s := range f.Spans {
		fmt.Fprintf(&text, " %d/%d/%q-%q/%v", s.Table, s.Index, s.Range.Lo, s.Range.Hi, s.Range.Open)
	}
	text.WriteString(" written")
	for _, p := range f.Writes {
		fmt.Fprintf(&text, " %d/%d/%q", p.Table, p.Index, p.Key)
	}
	return text.String()
}

// sized is a foot with so many points, spans and writes.
func sized(points, spans, writes int) api.Foot {
	return api.Foot{Points: make([]api.Point, points), Spans: make([]api.Span, spans), Writes: make([]api.Point, writes)}
}

type badFoot struct {
	foot api.Foot
	err  api.Errno
}

// badFeet is feet that layer 17's Check refuses, and why: most of them would meet a commit that wrote the row a.
func badFeet() map[string]badFoot {
	most := 1 << 16
	return map[string]badFoot{
		"too many points":        {sized(most+1, 0, 0), api.ErrFull},
		"too many spans":         {sized(0, most+1, 0), api.ErrFull},
		"too many writes":        {sized(0, 0, most+1), api.ErrFull},
		"too many in all":        {sized(most-1, 1, 1), api.ErrFull},
		"a point of no table":    {api.Foot{Points: []api.Point{point(-1, -1, "a")}, Writes: keys("a")}, api.ErrArg},
		"a point of no index":    {api.Foot{Points: []api.Point{point(0, -2, "a")}, Writes: keys("a")}, api.ErrArg},
		"a span of no table":     {api.Foot{Points: keys("a"), Spans: []api.Span{span(-1, -1, onwards(""))}, Writes: keys("a")}, api.ErrArg},
		"a span of no index":     {api.Foot{Points: keys("a"), Spans: []api.Span{span(0, -2, onwards(""))}, Writes: keys("a")}, api.ErrArg},
		"a write of no table":    {api.Foot{Points: keys("a"), Writes: append(keys("a"), point(-1, -1, "a"))}, api.ErrArg},
		"a write of no index":    {api.Foot{Points: keys("a"), Writes: append(keys("a"), point(0, -2, "a"))}, api.ErrArg},
		"too many, of no tables": {api.Foot{Points: make([]api.Point, most), Writes: []api.Point{point(-1, -1, "a")}}, api.ErrFull},
	}
}

// world is the keys, tables and indexes of which random feet are made: keys that lie nearest to each other among them.
type world struct {
	*rand.Rand
	keys    []string
	tables  []int
	indexes []int
}

func newWorld(seed uint64) world {
	return world{
		rand.New(rand.NewPCG(seed, 18)),
		[]string{"", "\x00", "a", "a\x00", "a\x00\x00", "a\x01", "a\xff", "b", "b\x00", "c", "\xff", "\xff\xff"},
		[]int{0, 1, 63},
		[]int{-1, 0, 15},
	}
}

func (w world) key() string { return w.keys[w.IntN(len(w.keys))] }

// place is often the same one: else few points would meet.
func (w world) place() (int, int) {
	if w.IntN(2) == 0 {
		return w.tables[0], w.indexes[0]
	}
	return w.tables[w.IntN(len(w.tables))], w.indexes[w.IntN(len(w.indexes))]
}

func (w world) some(most int) []api.Point {
	var l []api.Point
	for range w.IntN(most + 1) {
		table, index := w.place()
		l = append(l, point(table, index, w.key()))
	}
	return l
}

// foot has few points, spans and writes; spans without keys, of one key, and open ones with an Hi among them.
func (w world) foot() api.Foot {
	f := api.Foot{Points: w.some(3), Writes: w.some(3)}
	for range w.IntN(3) {
		table, index := w.place()
		f.Spans = append(f.Spans, span(table, index, api.Range{Lo: w.key(), Hi: w.key(), Open: w.IntN(8) == 0}))
	}
	return f
}

// attempt saw all up to a stamp of those up to last, mostly to one of the latest; few of them may not be.
func (w world) attempt(last uint64) api.Attempt {
	a := api.Attempt{From: last - min(last, w.Uint64N(6)), Foot: w.foot(), Level: 1 + w.IntN(3)}
	switch w.IntN(40) {
	case 0:
		a.Level = w.IntN(9) - 4
	case 1:
		a.Foot.Writes = append(a.Foot.Writes, point(-1, 0, ""))
	case 2:
		a.From = w.Uint64N(2*last + 2)
	}
	return a
}
