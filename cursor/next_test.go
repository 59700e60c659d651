package cursor_test

import (
	"fmt"
	"math"
	"testing"

	"vellum/api"
	"vellum/code"
	"vellum/cursor"
	"vellum/lit"
)

// upTo is the keys of a range up to that of an int, it too.
func upTo(r api.Range, n int64) api.Range { return api.Range{Lo: r.Lo, Hi: keyOf(n) + "\x00"} }

// fromOn is the keys of a range from that of an int on.
func fromOn(r api.Range, n int64) api.Range {
	if r.Open {
		return api.Range{Lo: keyOf(n), Open: true}
	}
	return api.Range{Lo: keyOf(n), Hi: r.Hi}
}

// Cu1, Cu2: step by step, rising and falling; the slot, the key and the row are told.
func TestNextStepByStep(t *testing.T) {
	s, x := made(t, ones(3, 1, 4, 2)...)
	for _, r := range []api.Range{all(), from(2, 4), from(1, 9), {Lo: keyOf(2), Hi: "does not matter", Open: true}} {
		var in []int64
		for n := int64(1); n <= 4; n++ {
			if code.Has(r, keyOf(n)) {
				in = append(in, n)
			}
		}
		told := code.Both(r, all())
		c := opened(t, table(), s, x, api.View{Stamp: 1}, api.Scan{Range: r, Most: many})
		wants(t, "Through", c.Through(), api.Range{})
		for _, n := range in {
			steps(t, c, n, upTo(r, n))
		}
		ends(t, c, api.OK, told)
		c = opened(t, table(), s, x, api.View{Stamp: 1}, api.Scan{Range: r, Most: many, Back: true})
		wants(t, "Through", c.Through(), api.Range{})
		for i := len(in) - 1; i >= 0; i-- {
			steps(t, c, in[i], fromOn(r, in[i]))
		}
		ends(t, c, api.OK, told)
	}
	c := opened(t, table(), s, x, api.View{Stamp: 1}, api.Scan{Range: from(4, 9), Most: 1})
	r, _, _ := c.Next()
	wants(t, "the row", shown(r), shown(api.Seen{Slot: 2, Key: keyOf(4), Row: ones(4)[0]}))
}

// Words: Most rows are told and no more; below 1 it ends at once, at the beginning.
func TestMost(t *testing.T) {
	s, x := made(t, ones(1, 2, 3)...)
	v := api.View{Stamp: 1}
	for _, most := range []int{math.MinInt, -1, 0} {
		for _, back := range []bool{false, true} {
			q := api.Scan{Range: all(), Most: most, Back: back}
			tells(t, s, x, v, q, api.Range{})
			ends(t, opened(t, table(), s, x, v, q), api.OK, api.Range{})
		}
	}
	tells(t, s, x, v, api.Scan{Range: all(), Most: 1}, upTo(all(), 1), 1)
	tells(t, s, x, v, api.Scan{Range: all(), Most: 2, Back: true}, fromOn(all(), 2), 3, 2)
	tells(t, s, x, v, api.Scan{Range: all(), Most: 3}, upTo(all(), 3), 1, 2, 3)
	tells(t, s, x, v, api.Scan{Range: all(), Most: 3, Back: true}, fromOn(all(), 1), 3, 2, 1)
	tells(t, s, x, v, api.Scan{Range: all(), Most: 4}, all(), 1, 2, 3)
	tells(t, s, x, v, api.Scan{Range: all(), Most: math.MaxInt, Back: true}, all(), 3, 2, 1)
	c := opened(t, table(), s, x, v, api.Scan{Range: all(), Most: 1})
	steps(t, c, 1, upTo(all(), 1))
	ends(t, c, api.OK, upTo(all(), 1))
}

// Words: Most counts the rows that are told, not those that Where does not take, nor entries through which none is seen.
func TestMostCountsWhatIsTold(t *testing.T) {
	s, x := made(t, ones(1, 2, 3, 4, 5, 6)...)
	s.Write(1, 2, api.Write{Gone: true}, 1)
	s.Settle(2, 2)
	even := where(t, table(), "a % 2 = 0")
	tells(t, s, x, api.View{Stamp: 2}, api.Scan{Range: all(), Most: 1, Where: even}, upTo(all(), 4), 4)
	tells(t, s, x, api.View{Stamp: 1}, api.Scan{Range: all(), Most: 1, Where: even}, upTo(all(), 2), 2)
	tells(t, s, x, api.View{Stamp: 2}, api.Scan{Range: all(), Most: 2, Where: even, Back: true}, fromOn(all(), 4), 6, 4)
	tells(t, s, x, api.View{Stamp: 2}, api.Scan{Range: all(), Most: 3, Where: even}, all(), 4, 6)
	c := opened(t, table(), s, x, api.View{Stamp: 2}, api.Scan{Range: from(1, 6), Most: 2, Where: even})
	steps(t, c, 4, upTo(from(1, 6), 4))
	ends(t, c, api.OK, from(1, 6))
}

// Cu2: ranges with no entry, and with no key.
func TestRangesWithoutRows(t *testing.T) {
	s, x := made(t, ones(1, 5)...)
	v := api.View{Stamp: 1}
	for _, back := range []bool{false, true} {
		for _, r := range []api.Range{from(2, 5), from(6, 9), {Hi: keyOf(1)}, {Lo: keyOf(5) + "\x00", Open: true}} {
			q := api.Scan{Range: r, Most: many, Back: back}
			tells(t, s, x, v, q, r)
			ends(t, opened(t, table(), s, x, v, q), api.OK, r)
		}
		for _, r := range []api.Range{{}, from(5, 1), from(5, 5), {Lo: "x", Hi: "x"}, {Lo: "b", Hi: "a"}, {Lo: "a"}} {
			q := api.Scan{Range: r, Most: many, Back: back}
			tells(t, s, x, v, q, api.Range{})
			ends(t, opened(t, table(), s, x, v, q), api.OK, api.Range{})
		}
		s, x := made(t)
		tells(t, s, x, v, api.Scan{Range: all(), Most: many, Back: back}, all())
	}
}

// Cu1, Cu3: what is refused for a row is told where the cursor comes to it; it has ended then, and All tells no rows.
func TestRefusedForARow(t *testing.T) {
	s, x := made(t, pair(1, 5), pair(2, 2), pair(3, 0), pair(4, math.MaxInt64))
	v := api.View{Stamp: 1}
	for _, c := range []struct {
		where string
		back  bool
		told  []int64
		want  api.Errno
		at    int64
	}{
		{"10 / b > 0", false, []int64{1, 2}, api.ErrZero, 3},
		{"10 / b > 3", false, []int64{2}, api.ErrZero, 3},
		{"10 / b >= 0", true, []int64{4}, api.ErrZero, 3},
		{"b + 1 > 0", false, []int64{1, 2, 3}, api.ErrRange, 4},
		{"b + 1 > 0", true, nil, api.ErrRange, 4},
	} {
		q := api.Scan{Range: all(), Most: many, Where: where(t, table(), c.where), Back: c.back}
		through := func(n int64) api.Range {
			if c.back {
				return fromOn(all(), n)
			}
			return upTo(all(), n)
		}
		cur := opened(t, table(), s, x, v, q)
		for _, n := range c.told {
			steps(t, cur, n, through(n))
		}
		ends(t, cur, c.want, through(c.at))
		l, r, err := cursor.All(table(), s, x, v, q)
		if len(l) != 0 || r != (api.Range{}) || err != c.want {
			t.Errorf("All where %s: %v, %v, %d, want %d", c.where, l, r, err, c.want)
		}
	}
	q := api.Scan{Range: all(), Most: 2, Where: where(t, table(), "10 / b > 0")}
	tells(t, s, x, v, q, upTo(all(), 2), 1, 2)
	q.Range = from(1, 3)
	q.Most = many
	tells(t, s, x, v, q, from(1, 3), 1, 2)
}

// Cu3: a row far behind the first ones for which the condition is refused: no rows are told.
func TestRefusedFarBehind(t *testing.T) {
	var rows [][]api.Value
	for n := range int64(700) {
		rows = append(rows, pair(n, 1))
	}
	for _, at := range []int{0, 1, 255, 256, 257, 511, 512, 699} {
		rows[at][1] = lit.Int(0)
		s, x := made(t, rows...)
		q := api.Scan{Range: all(), Most: at, Where: where(t, table(), "1 / b = 1")}
		l, _, err := cursor.All(table(), s, x, api.View{Stamp: 1}, q)
		if len(l) != at || err != api.OK {
			t.Errorf("All of %d: %d rows, %d", at, len(l), err)
		}
		q.Most = at + 1
		l, r, err := cursor.All(table(), s, x, api.View{Stamp: 1}, q)
		if len(l) != 0 || r != (api.Range{}) || err != api.ErrZero {
			t.Errorf("All of %d: %d rows, %v, %d", at+1, len(l), r, err)
		}
		rows[at][1] = lit.Int(1)
	}
}

// Words: entries and rows are those that are there when the cursor comes by, not those at its opening.
func TestWrittenMeanwhile(t *testing.T) {
	s, x := made(t, ones(10, 20, 30, 40)...)
	v := api.View{Txn: 2, Stamp: 1}
	c := opened(t, table(), s, x, v, api.Scan{Range: all(), Most: many})
	back := opened(t, table(), s, x, v, api.Scan{Range: all(), Most: many, Back: true})
	steps(t, c, 10, upTo(all(), 10))
	steps(t, back, 40, fromOn(all(), 40))
	// Ahead of both: 5 is not met rising, 15 is; 45 is not met falling.
	for _, row := range ones(5, 15, 45) {
		slot, err := s.Add(2, api.Write{Row: row})
		wants(t, "Add", err, api.OK)
		wants(t, "Put", x.Put(row, slot), api.OK)
	}
	s.Write(1, 2, api.Write{Gone: true}, 1)
	steps(t, c, 15, upTo(all(), 15))
	steps(t, c, 30, upTo(all(), 30))
	steps(t, back, 30, fromOn(all(), 30))
	steps(t, back, 15, fromOn(all(), 15))
	s.Back(2, 0)
	x.Sweep(s)
	steps(t, c, 40, upTo(all(), 40))
	steps(t, back, 10, fromOn(all(), 10))
	ends(t, c, api.OK, all())
	ends(t, back, api.OK, all())
	// One that has ended has, whatever comes.
	row := ones(50)[0]
	slot, _ := s.Add(2, api.Write{Row: row})
	x.Put(row, slot)
	ends(t, c, api.OK, all())
}

// Words: a row that has another key meanwhile is met at both, or at none.
func TestKeysChangedMeanwhile(t *testing.T) {
	s := filled(t, pair(1, 10), pair(2, 20), pair(3, 30))
	x := built(t, table(), 0, s)
	v := api.View{Txn: 2, Stamp: 1}
	c := opened(t, table(), s, x, v, api.Scan{Range: all(), Most: many})
	move := func(slot int, row []api.Value) {
		wants(t, "Write", s.Write(slot, 2, api.Write{Row: row}, 1), api.OK)
		wants(t, "Put", x.Put(row, slot), api.OK)
	}
	steps(t, c, 1, api.Range{Hi: keyOf(10, 1) + "\x00"})
	move(0, pair(1, 25))
	move(1, pair(2, 5))
	steps(t, c, 1, api.Range{Hi: keyOf(25, 1) + "\x00"})
	steps(t, c, 3, api.Range{Hi: keyOf(30, 3) + "\x00"})
	ends(t, c, api.OK, all())
}

// Cu1: who looks is told what it wrote, and others what was committed at their stamp.
func TestViews(t *testing.T) {
	s, x := made(t, ones(1, 2)...)
	row := ones(3)[0]
	slot, _ := s.Add(5, api.Write{Row: row})
	x.Put(row, slot)
	q := api.Scan{Range: all(), Most: many}
	tells(t, s, x, api.View{Stamp: 0}, q, all())
	tells(t, s, x, api.View{Stamp: 1}, q, all(), 1, 2)
	tells(t, s, x, api.View{Txn: 5, Stamp: 1}, q, all(), 1, 2, 3)
	tells(t, s, x, api.View{Txn: 5}, q, all(), 3)
	tells(t, s, x, api.View{Txn: -5, Stamp: math.MaxUint64}, q, all(), 1, 2)
	s.Settle(5, 9)
	tells(t, s, x, api.View{Stamp: 8}, q, all(), 1, 2)
	tells(t, s, x, api.View{Stamp: 9}, q, all(), 1, 2, 3)
}

// Cu3: of many rows all are told, or so many as may be, and the range is as with few.
func TestAllOfManyRows(t *testing.T) {
	for _, n := range []int{1, 255, 256, 257, 511, 512, 513, 1024} {
		var l []int64
		for a := range int64(n) {
			l = append(l, a)
		}
		s, x := made(t, ones(l...)...)
		v := api.View{Stamp: 1}
		tells(t, s, x, v, api.Scan{Range: all(), Most: n, Where: where(t, table(), "a < 0")}, all())
		tells(t, s, x, v, api.Scan{Range: all(), Most: n}, upTo(all(), int64(n-1)), l...)
		tells(t, s, x, v, api.Scan{Range: all(), Most: n + 1}, all(), l...)
		last := where(t, table(), "a = "+fmt.Sprint(n-1))
		tells(t, s, x, v, api.Scan{Range: all(), Most: 1, Where: last}, upTo(all(), int64(n-1)), int64(n-1))
		tells(t, s, x, v, api.Scan{Range: all(), Most: 2, Where: last}, all(), int64(n-1))
		tells(t, s, x, v, api.Scan{Range: all(), Most: 1, Where: where(t, table(), "a = 0"), Back: true}, fromOn(all(), 0), 0)
	}
}
