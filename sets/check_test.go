package sets_test

import (
	"fmt"
	"math"
	"strings"
	"testing"

	"vellum/api"
	"vellum/sets"
)

// sized is a foot with so many points, spans and writes.
func sized(points, spans, writes int) api.Foot {
	return api.Foot{Points: make([]api.Point, points), Spans: make([]api.Span, spans), Writes: make([]api.Point, writes)}
}

// withBad is a foot of which one part, the first or the last one of its list, lies at these numbers.
func withBad(f api.Foot, list, i, table, index int) api.Foot {
	switch list {
	case 0:
		f.Points[i] = point(table, index, "x")
	case 1:
		f.Spans[i] = span(table, index, upTo("x", "y"))
	case 2:
		f.Writes[i] = point(table, index, "x")
	}
	return f
}

// refused holds what Check and Norm refuse of a foot, and Merge of it and another one, against what is wanted.
func refused(t *testing.T, what string, f api.Foot, want api.Errno) {
	t.Helper()
	wants(t, "Check of "+what, sets.Check(f), want)
	n, err := sets.Norm(f)
	wants(t, "Norm of "+what, err, want)
	if want != api.OK {
		wantsFoot(t, "Norm of "+what, n, api.Foot{})
	}
	for _, feet := range [][2]api.Foot{{f, {}}, {{}, f}} {
		m, err := sets.Merge(feet[0], feet[1])
		wants(t, "Merge with "+what, err, want)
		if want != api.OK {
			wantsFoot(t, "Merge with "+what, m, api.Foot{})
		}
	}
}

// Se1: MaxFoot points, spans and writes may be, whichever they are; one more may not.
func TestSizes(t *testing.T) {
	most := 1 << 16
	for _, c := range [][3]int{{most, 0, 0}, {0, most, 0}, {0, 0, most}, {most - 2, 1, 1}, {1, most - 2, 1}, {1, 1, most - 2}, {most / 2, most / 4, most / 4}} {
		f := sized(c[0], c[1], c[2])
		refused(t, fmt.Sprint(c), f, api.OK)
		for list := range 3 {
			c := c
			c[list]++
			refused(t, fmt.Sprint(c), sized(c[0], c[1], c[2]), api.ErrFull)
		}
	}
	refused(t, "three times as many", sized(most, most, most), api.ErrFull)
	refused(t, "nothing", api.Foot{}, api.OK)
	refused(t, "empty lists", sized(0, 0, 0), api.OK)
}

// Se1: a Table below 0 and an Index below -1 may not be, wherever they stand.
func TestNumbers(t *testing.T) {
	for list := range 3 {
		for i := range 3 {
			for _, n := range []int{math.MinInt, math.MinInt32, -65, -2, -1} {
				refused(t, fmt.Sprint("table ", n, " in list ", list), withBad(sized(3, 3, 3), list, i, n, -1), api.ErrArg)
			}
			for _, n := range []int{math.MinInt, math.MinInt32, -3, -2} {
				refused(t, fmt.Sprint("index ", n, " in list ", list), withBad(sized(3, 3, 3), list, i, 0, n), api.ErrArg)
			}
			refused(t, fmt.Sprint("both in list ", list), withBad(sized(3, 3, 3), list, i, -1, -2), api.ErrArg)
			for _, n := range []int{0, 1, 63, 64, 65536, math.MaxInt} {
				refused(t, fmt.Sprint("number ", n, " in list ", list), withBad(sized(3, 3, 3), list, i, n, n), api.OK)
				refused(t, fmt.Sprint("number ", n, " in list ", list), withBad(sized(3, 3, 3), list, i, n, -1), api.OK)
			}
		}
	}
}

// Se1: ErrFull is named first.
func TestFullIsToldFirst(t *testing.T) {
	for list := range 3 {
		refused(t, "a foot that is too great", withBad(sized(1<<16-1, 1, 1), list, 0, -1, -2), api.ErrFull)
		refused(t, "a foot as great as may be", withBad(sized(1<<16-2, 1, 1), list, 0, -1, -2), api.ErrArg)
	}
}

// Se1: keys and ranges may be any.
func TestKeysMayBeAny(t *testing.T) {
	for _, key := range []string{"", "\x00", "\xff\xff", "no key of layer 2", strings.Repeat("k", 5000)} {
		f := api.Foot{Points: keys(key), Spans: ranges(upTo(key, ""), upTo("z", key), onwards(key), api.Range{Lo: key, Hi: key, Open: true}), Writes: keys(key)}
		refused(t, "any keys", f, api.OK)
	}
}

// Se2: what is refused of a, then of b, then of both together.
func TestMergeRefuses(t *testing.T) {
	full, bad, fine := sized(1<<16-1, 1, 1), withBad(sized(1, 1, 1), 1, 0, 0, -2), sized(1, 1, 1)
	most := sized(1<<16-2, 1, 1)
	badMost := withBad(sized(1<<16-2, 1, 1), 2, 0, -1, 0)
	for _, c := range []struct {
		what string
		a, b api.Foot
		want api.Errno
	}{
		{"full, fine", full, fine, api.ErrFull},
		{"fine, full", fine, full, api.ErrFull},
		{"bad, fine", bad, fine, api.ErrArg},
		{"fine, bad", fine, bad, api.ErrArg},
		{"bad, full", bad, full, api.ErrArg},
		{"full, bad", full, bad, api.ErrFull},
		{"most, fine", most, fine, api.ErrFull},
		{"fine, most", fine, most, api.ErrFull},
		{"most, bad", most, bad, api.ErrArg},
		{"bad, most", bad, most, api.ErrArg},
		{"bad most, fine", badMost, fine, api.ErrArg},
		{"fine, bad most", fine, badMost, api.ErrArg},
		{"most, nothing", most, api.Foot{}, api.OK},
		{"nothing, most", api.Foot{}, most, api.OK},
	} {
		m, err := sets.Merge(c.a, c.b)
		wants(t, "Merge of "+c.what, err, c.want)
		if c.want != api.OK {
			wantsFoot(t, "Merge of "+c.what, m, api.Foot{})
		}
	}
}

// Se2: both sizes together may be MaxFoot, whichever lists they are of, though the normal foot be far less.
func TestMergeSizes(t *testing.T) {
	most := 1 << 16
	for _, c := range [][2][3]int{
		{{most - 1, 0, 0}, {1, 0, 0}}, {{0, 1, 0}, {0, most - 1, 0}}, {{0, 0, most / 2}, {0, 0, most / 2}},
		{{most / 2, 0, 0}, {0, 0, most / 2}}, {{0, most / 2, 0}, {most / 2, 0, 0}}, {{1, 1, 1}, {1, 1, most - 5}},
	} {
		a, b := sized(c[0][0], c[0][1], c[0][2]), sized(c[1][0], c[1][1], c[1][2])
		_, err := sets.Merge(a, b)
		wants(t, fmt.Sprint("Merge of ", c), err, api.OK)
		for list := range 3 {
			more := c
			more[1][list]++
			m, err := sets.Merge(a, sized(more[1][0], more[1][1], more[1][2]))
			wants(t, fmt.Sprint("Merge of ", more), err, api.ErrFull)
			wantsFoot(t, fmt.Sprint("Merge of ", more), m, api.Foot{})
		}
	}
}
