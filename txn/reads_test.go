package txn_test

import (
	"math"
	"strings"
	"testing"

	"vellum/api"
	"vellum/code"
	"vellum/lit"
)

// badKey is values that are no key of wide, whose key is a text and a float, and why.
type badKey struct {
	key  []api.Value
	want api.Errno
}

func badKeys() map[string]badKey {
	long, longer := strings.Repeat("x", 1014), strings.Repeat("x", 1<<16+1)
	return map[string]badKey{
		"nothing":                       {nil, api.ErrArg},
		"too few":                       {[]api.Value{lit.Text("x")}, api.ErrArg},
		"too many":                      {[]api.Value{lit.Text("x"), lit.Float(1), lit.Int(1)}, api.ErrArg},
		"null":                          {[]api.Value{lit.Text("x"), lit.Null()}, api.ErrArg},
		"another kind":                  {[]api.Value{lit.Text("x"), lit.Int(1)}, api.ErrArg},
		"in the columns' order":         {[]api.Value{lit.Float(1), lit.Text("x")}, api.ErrArg},
		"no kind":                       {[]api.Value{lit.Text("x"), {Kind: 9}}, api.ErrArg},
		"a kind below all":              {[]api.Value{{Kind: -1}, lit.Float(1)}, api.ErrArg},
		"a text that is none":           {[]api.Value{lit.Text("\xff"), lit.Float(1)}, api.ErrValue},
		"a text that is none, and null": {[]api.Value{lit.Text("\xff"), lit.Null()}, api.ErrArg},
		"a float with an N":             {[]api.Value{lit.Text("x"), {Kind: api.KindFloat, N: 1}}, api.ErrValue},
		"a text that is too long":       {[]api.Value{lit.Text(longer), lit.Float(1)}, api.ErrLong},
		"two that may not be":           {[]api.Value{lit.Text(longer), {Kind: api.KindFloat, S: "x"}}, api.ErrLong},
		"a key of 1025 bytes":           {[]api.Value{lit.Text(long), lit.Float(1)}, api.ErrLong},
		"a key of 1024 bytes":           {[]api.Value{lit.Text(long[1:]), lit.Float(1)}, api.OK},
	}
}

// Tx2, Tx3: what is refused of a key, and nothing is noted then.
func TestKeysThatMayNotBe(t *testing.T) {
	d := madeOf(t, pairs("t"), wide("w"))
	x := begin(t, d, serial)
	row := []api.Value{lit.Float(2), lit.Null(), lit.Null(), lit.Text("y")}
	for what, c := range badKeys() {
		if c.want == api.OK {
			continue
		}
		_, there, err := d.Get(x, 1, c.key)
		wants(t, "Get of "+what, err, c.want)
		wants(t, "Get of "+what, there, false)
		wants(t, "Update of "+what, d.Update(x, 1, c.key, row), c.want)
		wants(t, "Update of "+what+" to no row", d.Update(x, 1, c.key, nil), c.want)
		wants(t, "Delete of "+what, d.Delete(x, 1, c.key), c.want)
		wants(t, "TryUpdate of "+what, d.TryUpdate(x, 1, c.key, row), c.want)
		wants(t, "TryDelete of "+what, d.TryDelete(x, 1, c.key), c.want)
	}
	footIs(t, d, x, api.Foot{})
	longest := badKeys()["a key of 1024 bytes"].key
	_, there, err := d.Get(x, 1, longest)
	if there || err != api.OK {
		t.Fatalf("Get of the longest key: %v, error %d", there, err)
	}
	wants(t, "Delete of the longest key", d.Delete(x, 1, longest), api.ErrMissing)
	k, _ := code.Encode(longest)
	footIs(t, d, x, api.Foot{Points: []api.Point{{Table: 1, Index: -1, Key: k}}})
}

// Tx2: ErrNone, of tables and indexes that are not there, is ahead of all that is said of keys and scans.
func TestNoTableAndNoIndex(t *testing.T) {
	d := two(t)
	x := begin(t, d, serial)
	bad := where(t, pairs("t"), "a")
	for _, table := range []int{-1, 1, 64, many, -many} {
		_, there, err := d.Get(x, table, nil)
		if there || err != api.ErrNone {
			t.Fatalf("Get of table %d: %v, error %d", table, there, err)
		}
		_, err = d.Scan(x, table, by(-1))
		wants(t, "Scan", err, api.ErrNone)
		wants(t, "Insert", d.Insert(x, table, nil), api.ErrNone)
		wants(t, "Update", d.Update(x, table, nil, nil), api.ErrNone)
		wants(t, "Delete", d.Delete(x, table, nil), api.ErrNone)
		wants(t, "TryInsert", d.TryInsert(x, table, nil), api.ErrNone)
		_, err = d.Latest(table, -1, all())
		wants(t, "Latest", err, api.ErrNone)
		_, err = d.Entries(table, -1, all())
		wants(t, "Entries", err, api.ErrNone)
		_, err = d.At(table, 99)
		wants(t, "At", err, api.ErrNone)
	}
	for _, index := range []int{-2, 1, many, -many} {
		l, err := d.Scan(x, 0, api.Scan{Index: index, Range: all(), Most: 9, Where: bad})
		if len(l) != 0 || err != api.ErrNone {
			t.Fatalf("Scan of index %d: %v, error %d", index, l, err)
		}
		_, err = d.Latest(0, index, all())
		wants(t, "Latest", err, api.ErrNone)
		_, err = d.Entries(0, index, all())
		wants(t, "Entries", err, api.ErrNone)
	}
	footIs(t, d, x, api.Foot{})
}

// Tx2: each level's own snapshot; what it wrote itself it sees first.
func TestGetByLevel(t *testing.T) {
	d := two(t)
	var l []int
	for level := committed; level <= serial; level++ {
		l = append(l, begin(t, d, level))
	}
	done(t, d, func(x int) { updates(t, d, x, 1, pair(1, 7)) })
	gets(t, d, l[0], 1, "1 7")
	gets(t, d, l[1], 1, "1 0")
	gets(t, d, l[2], 1, "1 0")
	done(t, d, func(x int) { deletes(t, d, x, 1) })
	done(t, d, func(x int) { inserts(t, d, x, pair(3, 3)) })
	gets(t, d, l[0], 1, "")
	gets(t, d, l[1], 1, "1 0")
	gets(t, d, l[2], 3, "")
	sees(t, d, l[0], by(-1), "2 0, 3 3")
	sees(t, d, l[1], by(-1), "1 0, 2 0")
	sees(t, d, l[2], by(0), "1 0, 2 0")
	for i, x := range l {
		inserts(t, d, x, pair(int64(10+i), 5))
		gets(t, d, x, int64(10+i), []string{"10 5", "11 5", "12 5"}[i])
		gets(t, d, x, int64(10+(i+1)%3), "")
	}
	deletes(t, d, l[1], 11)
	gets(t, d, l[1], 11, "")
}

// Tx2: a key has its values as layer 2 tells them: -0 and NaNs are no others.
func TestKeysAreAsLayer2HasThem(t *testing.T) {
	d := madeOf(t, wide("w"))
	x := begin(t, d, snapshot)
	minus, nan := lit.Bits(1<<63), lit.Bits(0xFFF8000000000001)
	row := func(a api.Value) []api.Value { return []api.Value{a, lit.Null(), lit.Null(), lit.Text("d")} }
	wants(t, "Insert", d.Insert(x, 0, row(minus)), api.OK)
	wants(t, "Insert of +0", d.Insert(x, 0, row(lit.Float(0))), api.ErrExists)
	wants(t, "Insert of a NaN", d.Insert(x, 0, row(nan)), api.OK)
	wants(t, "Update of -0", d.Update(x, 0, []api.Value{lit.Text("d"), lit.Float(0)}, row(lit.Float(0))), api.OK)
	infoIs(t, d, x, api.Info{Level: snapshot, Writes: 2})
	got, there, err := d.Get(x, 0, []api.Value{lit.Text("d"), minus})
	if !there || err != api.OK || math.Float64bits(got[0].F) != 0 {
		t.Fatalf("Get: %s, %v, error %d", shownRow(got), there, err)
	}
	got, _, _ = d.Get(x, 0, []api.Value{lit.Text("d"), lit.Float(math.NaN())})
	wants(t, "the NaN's bits", math.Float64bits(got[0].F), 0xFFF8000000000001)
}

// Tx2: scans by index, range, condition, back and most.
func TestScan(t *testing.T) {
	d := filled(t, pair(1, 9), pair(2, 8), pair(3, 7), pair(4, 6), pair(5, 5))
	x := begin(t, d, snapshot)
	updates(t, d, x, 3, pair(3, 1))
	deletes(t, d, x, 4)
	inserts(t, d, x, pair(6, 9))
	even := where(t, pairs("t"), "a % 2 = 0")
	for want, q := range map[string]api.Scan{
		"1 9, 2 8, 3 1, 5 5, 6 9": by(-1),
		"3 1, 5 5, 2 8, 1 9, 6 9": by(0),
		"6 9, 1 9, 2 8, 5 5, 3 1": {Index: 0, Range: all(), Most: many, Back: true},
		"2 8, 3 1":                {Index: -1, Range: upTo(2, 5), Most: 9},
		"5 5, 2 8":                {Index: 0, Range: upTo(2, 9), Most: 9},
		"6 9, 5 5":                {Index: -1, Range: all(), Most: 2, Back: true},
		"2 8, 6 9":                {Index: -1, Range: all(), Most: 9, Where: even},
		"":                        {Index: -1, Range: all(), Most: 0},
		"3 1, 5 5, 2 8, 1 9":      {Index: 0, Range: all(), Most: 4},
		"1 9, 2 8, 3 1, 5 5":      {Index: -1, Range: upTo(-5, 6), Most: 9},
		"5 5, 3 1, 2 8":           {Index: -1, Range: upTo(2, 6), Most: 9, Back: true},
		"2 8":                     {Index: -1, Range: all(), Most: 1, Where: even},
		"5 5, 2 8, 1 9, 6 9":      {Index: 0, Range: api.Range{Lo: keyOf(2), Open: true, Hi: "\x00"}, Most: 9},
	} {
		sees(t, d, x, q, want)
	}
	footIs(t, d, begin(t, d, snapshot), api.Foot{})
}

// Tx2: a row that is told has its slot, and its key in the index.
func TestScanTellsSlotsAndKeys(t *testing.T) {
	d := filled(t, pair(7, 2), pair(5, 3))
	l, err := d.Scan(begin(t, d, committed), 0, by(0))
	if err != api.OK || len(l) != 2 {
		t.Fatalf("Scan: %v, error %d", l, err)
	}
	wants(t, "the first slot", l[0].Slot, 0)
	wants(t, "the first key", l[0].Key, keyOf(2, 7))
	wants(t, "the second slot", l[1].Slot, 1)
	wants(t, "the second key", l[1].Key, keyOf(3, 5))
	l, _ = d.Scan(begin(t, d, committed), 0, by(-1))
	wants(t, "the first slot by key", l[0].Slot, 1)
	wants(t, "the first key by key", l[0].Key, keyOf(5))
}

// Tx2: what a scan is refused for: what layer 16's Open refuses notes nothing; a row that the condition is refused for notes the Range.
func TestScanRefuses(t *testing.T) {
	d := filled(t, pair(1, 0), pair(2, 1))
	tab := pairs("t")
	x := begin(t, d, serial)
	for what, c := range map[string]struct {
		e    api.Expr
		want api.Errno
	}{
		"no bool":           {where(t, tab, "a + 1"), api.ErrType},
		"no expression":     {api.Expr{Kind: 77}, api.ErrExpr},
		"no such column":    {api.Expr{Kind: api.ExprColumn, Column: 2}, api.ErrExpr},
		"kinds that do not": {api.Expr{Kind: api.ExprUnary, Op: "not", Kids: []api.Expr{where(t, tab, "a")}}, api.ErrType},
	} {
		l, err := d.Scan(x, 0, api.Scan{Index: -1, Range: all(), Most: 9, Where: c.e})
		wants(t, "Scan of "+what, err, c.want)
		wants(t, "rows of "+what, len(l), 0)
	}
	footIs(t, d, x, api.Foot{})
	divides, sums := where(t, tab, "1 / b > 0"), where(t, tab, "a + 9223372036854775807 > 0")
	l, err := d.Scan(x, 0, api.Scan{Index: -1, Range: upTo(0, 9), Most: 1, Where: divides})
	if len(l) != 0 || err != api.ErrZero {
		t.Fatalf("Scan that divides by 0: %v, error %d", l, err)
	}
	footIs(t, d, x, api.Foot{Spans: []api.Span{over(-1, upTo(0, 9))}})
	_, err = d.Scan(x, 0, api.Scan{Index: 0, Range: api.Range{Lo: "\x01", Hi: "a", Open: true}, Most: 9, Where: sums})
	wants(t, "Scan beyond all ints", err, api.ErrRange)
	footIs(t, d, x, api.Foot{Spans: []api.Span{over(-1, upTo(0, 9)), over(0, api.Range{Lo: "\x01", Open: true})}})
	// It is refused for rows that it comes to alone.
	y := begin(t, d, serial)
	sees(t, d, y, api.Scan{Index: -1, Range: all(), Most: 1, Back: true, Where: divides}, "2 1")
	footIs(t, d, y, api.Foot{Spans: []api.Span{over(-1, api.Range{Lo: keyOf(2), Open: true})}})
}

// Words: what a serializable one reads is noted, rows or not; of the others nothing.
func TestReadsAreNoted(t *testing.T) {
	for level := committed; level <= serial; level++ {
		d := filled(t, pair(1, 5), pair(3, 5))
		x := begin(t, d, level)
		gets(t, d, x, 3, "3 5")
		gets(t, d, x, 2, "")
		gets(t, d, x, 3, "3 5")
		sees(t, d, x, api.Scan{Index: 0, Range: all(), Most: 1}, "1 5")
		sees(t, d, x, api.Scan{Index: -1, Range: upTo(7, 9), Most: 5}, "")
		sees(t, d, x, api.Scan{Index: -1, Range: upTo(9, 7), Most: 5}, "")
		sees(t, d, x, api.Scan{Index: -1, Range: all(), Most: 0}, "")
		want := api.Foot{
			Points: []api.Point{at(-1, 2), at(-1, 3)},
			Spans:  []api.Span{over(-1, upTo(7, 9)), over(0, api.Range{Hi: keyOf(5, 1) + "\x00"})},
		}
		if level != serial {
			want = api.Foot{}
		}
		footIs(t, d, x, want)
		// The foot is kept normal: a span has the points in it, and spans that touch are one.
		sees(t, d, x, api.Scan{Index: -1, Range: upTo(2, 4), Most: 5}, "3 5")
		sees(t, d, x, api.Scan{Index: -1, Range: upTo(4, 7), Most: 5}, "")
		gets(t, d, x, 8, "")
		want.Points, want.Spans = nil, []api.Span{over(-1, upTo(2, 9)), over(0, api.Range{Hi: keyOf(5, 1) + "\x00"})}
		if level != serial {
			want = api.Foot{}
		}
		footIs(t, d, x, want)
	}
}

// Words: writes note what they read, too, as soon as they are not refused for what they were given, and whatever they are told then.
func TestWritesNoteWhatTheyRead(t *testing.T) {
	d := filled(t, pair(1, 5), pair(2, 6))
	busy := begin(t, d, snapshot)
	inserts(t, d, busy, pair(20, 0))
	for what, c := range map[string]struct {
		do   func(x int) api.Errno
		want api.Errno
		read []api.Point
	}{
		"TryInsert":                  {func(x int) api.Errno { return d.TryInsert(x, 0, pair(3, 3)) }, api.OK, []api.Point{at(-1, 3)}},
		"TryUpdate":                  {func(x int) api.Errno { return d.TryUpdate(x, 0, key(1), pair(1, 3)) }, api.OK, []api.Point{at(-1, 1)}},
		"TryUpdate to another key":   {func(x int) api.Errno { return d.TryUpdate(x, 0, key(2), pair(1, 3)) }, api.ErrExists, []api.Point{at(-1, 1), at(-1, 2)}},
		"TryDelete":                  {func(x int) api.Errno { return d.TryDelete(x, 0, key(1)) }, api.OK, []api.Point{at(-1, 1)}},
		"Insert of one that is":      {func(x int) api.Errno { return d.Insert(x, 0, pair(1, 3)) }, api.ErrExists, []api.Point{at(-1, 1)}},
		"Insert of another one's":    {func(x int) api.Errno { return d.Insert(x, 0, pair(20, 3)) }, api.ErrBusy, []api.Point{at(-1, 20)}},
		"Update of none":             {func(x int) api.Errno { return d.Update(x, 0, key(7), pair(8, 3)) }, api.ErrMissing, []api.Point{at(-1, 7), at(-1, 8)}},
		"Delete of none":             {func(x int) api.Errno { return d.Delete(x, 0, key(7)) }, api.ErrMissing, []api.Point{at(-1, 7)}},
		"Insert of a bad row":        {func(x int) api.Errno { return d.Insert(x, 0, pair(1, 3)[:1]) }, api.ErrArg, nil},
		"Update to a bad row":        {func(x int) api.Errno { return d.Update(x, 0, key(1), []api.Value{lit.Null(), lit.Null()}) }, api.ErrNull, nil},
		"Delete of what is no key":   {func(x int) api.Errno { return d.Delete(x, 0, nil) }, api.ErrArg, nil},
		"Update of a key to a short": {func(x int) api.Errno { return d.Update(x, 0, key(1), nil) }, api.ErrArg, nil},
	} {
		for _, level := range []int{snapshot, serial} {
			x := begin(t, d, level)
			wants(t, what, c.do(x), c.want)
			want := api.Foot{}
			if level == serial {
				want.Points = c.read
			}
			footIs(t, d, x, want)
			aborts(t, d, x)
		}
	}
}
