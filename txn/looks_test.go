package txn_test

import (
	"fmt"
	"testing"

	"vellum/api"
)

// Tx6: what is known of a transaction.
func TestInfo(t *testing.T) {
	d := two(t)
	var l []int
	for level := committed; level <= serial; level++ {
		l = append(l, begin(t, d, level))
		infoIs(t, d, l[level-1], api.Info{Level: level, Snapshot: 1})
	}
	done(t, d, func(x int) { inserts(t, d, x, pair(3, 3)) })
	for i, x := range l {
		saves(t, d, x, 1)
		saves(t, d, x, 2)
		inserts(t, d, x, pair(int64(10*i+10), 0))
		inserts(t, d, x, pair(int64(10*i+11), 0))
		updates(t, d, x, int64(10*i+10), pair(int64(10*i+10), 1))
	}
	for i, x := range l {
		want := api.Info{Level: i + 1, Snapshot: 1, Saves: 2, Writes: 2}
		if i == 0 {
			want.Snapshot = 2
		}
		infoIs(t, d, x, want)
	}
	// A row that moved to another key is two that were written.
	updates(t, d, l[0], 1, pair(5, 5))
	infoIs(t, d, l[0], api.Info{Level: committed, Snapshot: 2, Saves: 2, Writes: 4})
	aborts(t, d, l[1])
	info, err := d.Info(l[1])
	if info != (api.Info{}) || err != api.ErrTxn {
		t.Fatalf("Info behind the end: %+v, error %d", info, err)
	}
	f, err := d.Foot(l[1])
	if size(f) != 0 || err != api.ErrTxn {
		t.Fatalf("Foot behind the end: %+v, error %d", f, err)
	}
}

// Tx6: the rows as they are there, by the entries of an index, each slot once.
func TestLatest(t *testing.T) {
	d := two(t)
	done(t, d, func(x int) { updates(t, d, x, 1, pair(1, 5)) })
	done(t, d, func(x int) { deletes(t, d, x, 2) })
	x := begin(t, d, snapshot)
	updates(t, d, x, 1, pair(1, 9))
	saves(t, d, x, 1)
	deletes(t, d, x, 1)
	inserts(t, d, x, pair(3, 4))
	first := "slot 0: 1 5@2 1 0@1 by 4: 1 9 on 0 gone on 1"
	second := "slot 1: gone@3 2 0@1"
	third := "slot 2: by 4: 3 4 on 1"
	for _, c := range []struct {
		index int
		r     api.Range
		want  string
	}{
		{-1, all(), first + "; " + second + "; " + third},
		{0, all(), first + "; " + second + "; " + third},
		{0, upTo(4, 100), third + "; " + first},
		{0, upTo(5, 100), first},
		{-1, upTo(2, 4), second + "; " + third},
		{-1, upTo(4, 2), ""},
		{-1, api.Range{}, ""},
		{0, upTo(6, 9), ""},
		{0, api.Range{Lo: keyOf(9), Hi: "\x00", Open: true}, first},
	} {
		l, err := d.Latest(0, c.index, c.r)
		wants(t, "Latest", err, api.OK)
		wants(t, fmt.Sprintf("Latest of %d, %+v", c.index, c.r), shownHeld(l), c.want)
	}
}

// Tx6: the entries of an index, rising.
func TestEntriesOfRanges(t *testing.T) {
	d := filled(t, pair(1, 9), pair(2, 8), pair(3, 7))
	for _, c := range []struct {
		index int
		r     api.Range
		want  string
	}{
		{-1, all(), "1: 0, 2: 1, 3: 2"},
		{0, all(), "7 3: 2, 8 2: 1, 9 1: 0"},
		{0, upTo(7, 9), "7 3: 2, 8 2: 1"},
		{-1, upTo(3, 3), ""},
		{-1, api.Range{Lo: keyOf(2), Open: true}, "2: 1, 3: 2"},
		{-1, api.Range{}, ""},
	} {
		l, err := d.Entries(0, c.index, c.r)
		wants(t, "Entries", err, api.OK)
		wants(t, fmt.Sprintf("Entries of %d, %+v", c.index, c.r), shownHits(l), c.want)
	}
}

// Tx6: rows as they were, from the floor to the frontier, by their keys; what is not committed nobody is told.
func TestAt(t *testing.T) {
	d := filled(t, pair(5, 0), pair(1, 0), pair(3, 0))
	done(t, d, func(x int) { updates(t, d, x, 3, pair(3, 1)); deletes(t, d, x, 5) })
	done(t, d, func(x int) { inserts(t, d, x, pair(5, 2)); updates(t, d, x, 1, pair(2, 0)) })
	inserts(t, d, begin(t, d, committed), pair(4, 4))
	for stamp, want := range []string{"", "1 0, 3 0, 5 0", "1 0, 3 1", "2 0, 3 1, 5 2"} {
		rowsAt(t, d, uint64(stamp), want)
	}
	for _, stamp := range []uint64{4, 1 << 62, 1<<62 + 1, 1<<64 - 1} {
		rows, err := d.At(0, stamp)
		if len(rows) != 0 || err != api.ErrArg {
			t.Fatalf("At %d: %v, error %d", stamp, rows, err)
		}
	}
	d.Prune(2)
	for stamp := range uint64(2) {
		rows, err := d.At(0, stamp)
		if len(rows) != 0 || err != api.ErrLow {
			t.Fatalf("At %d: %v, error %d", stamp, rows, err)
		}
	}
	rowsAt(t, d, 2, "1 0, 3 1")
	rowsAt(t, d, 3, "2 0, 3 1, 5 2")
}
