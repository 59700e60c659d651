package txn_test

import (
	"testing"

	"vellum/api"
	"vellum/txn"
)

// Tx4: savepoints are numbered from 1 on; going back to one, or releasing it, takes those behind it along.
func TestSavepointNumbers(t *testing.T) {
	d := two(t)
	for level := committed; level <= serial; level++ {
		x := begin(t, d, level)
		for n := 1; n <= 5; n++ {
			saves(t, d, x, n)
		}
		wants(t, "Back", d.Back(x, 3), api.OK)
		infoIs(t, d, x, api.Info{Level: level, Snapshot: 1, Saves: 3})
		wants(t, "Back to it again", d.Back(x, 3), api.OK)
		saves(t, d, x, 4)
		wants(t, "Release", d.Release(x, 2), api.OK)
		infoIs(t, d, x, api.Info{Level: level, Snapshot: 1, Saves: 1})
		for _, n := range []int{2, 3, 4, 5, 0, -1, many, -many} {
			wants(t, "Back to none", d.Back(x, n), api.ErrSave)
			wants(t, "Release of none", d.Release(x, n), api.ErrSave)
		}
		saves(t, d, x, 2)
		wants(t, "Release of the first one", d.Release(x, 1), api.OK)
		infoIs(t, d, x, api.Info{Level: level, Snapshot: 1})
		saves(t, d, x, 1)
		commits(t, d, x, 1)
	}
}

// Tx4: MaxSaves may be set.
func TestSavepointsFull(t *testing.T) {
	d := two(t)
	x := begin(t, d, snapshot)
	for n := 1; n <= 1000; n++ {
		saves(t, d, x, n)
		if n%250 == 0 {
			updates(t, d, x, 1, pair(1, int64(n)))
		}
	}
	n, err := d.Save(x)
	if n != 0 || err != api.ErrFull {
		t.Fatalf("Save of one more: %d, error %d", n, err)
	}
	infoIs(t, d, x, api.Info{Level: snapshot, Snapshot: 1, Saves: 1000, Writes: 1})
	wants(t, "Back", d.Back(x, 1000), api.OK)
	gets(t, d, x, 1, "1 750")
	_, err = d.Save(x)
	wants(t, "Save of one more", err, api.ErrFull)
	wants(t, "Release", d.Release(x, 1000), api.OK)
	saves(t, d, x, 1000)
	wants(t, "Back", d.Back(x, 251), api.OK)
	gets(t, d, x, 1, "1 250")
	commits(t, d, x, 2)
}

// Tx4: what was written behind a savepoint is taken back, in all tables, level by level.
func TestBack(t *testing.T) {
	d := madeOf(t, pairs("t"), pairs("u"))
	done(t, d, func(x int) {
		inserts(t, d, x, pair(1, 0))
		inserts(t, d, x, pair(2, 0))
		wants(t, "Insert", d.Insert(x, 1, pair(1, 0)), api.OK)
	})
	x := begin(t, d, snapshot)
	states := []string{seenBy(t, d, x)}
	steps := []func(){
		func() { updates(t, d, x, 1, pair(1, 1)) },
		func() { wants(t, "Delete", d.Delete(x, 1, key(1)), api.OK); inserts(t, d, x, pair(5, 5)) },
		func() { updates(t, d, x, 1, pair(3, 1)); updates(t, d, x, 5, pair(5, 6)) },
		func() { wants(t, "Insert", d.Insert(x, 1, pair(1, 9)), api.OK); deletes(t, d, x, 5) },
		func() { inserts(t, d, x, pair(5, 7)); deletes(t, d, x, 2) },
	}
	for i, step := range steps {
		saves(t, d, x, i+1)
		step()
		states = append(states, seenBy(t, d, x))
	}
	infoIs(t, d, x, api.Info{Level: snapshot, Snapshot: 1, Saves: 5, Writes: 5})
	for i := len(steps); i > 0; i-- {
		wants(t, "Back", d.Back(x, i), api.OK)
		wants(t, "what is seen", seenBy(t, d, x), states[i-1])
		steps[i-1]()
		wants(t, "what is seen when it is done again", seenBy(t, d, x), states[i])
		wants(t, "Back again", d.Back(x, i), api.OK)
		wants(t, "what is seen then", seenBy(t, d, x), states[i-1])
	}
	infoIs(t, d, x, api.Info{Level: snapshot, Snapshot: 1, Saves: 1})
	commits(t, d, x, 1)
	entries(t, d, 0, "0 1: 0, 0 2: 1")
	entries(t, d, -1, "1: 0, 2: 1")
}

// seenBy is what a transaction sees of all tables, by their keys and by their indexes.
func seenBy(t *testing.T, d *txn.DB, x int) string {
	t.Helper()
	text := ""
	for n, tab := range d.Tables() {
		for index := -1; index < len(tab.Indexes); index++ {
			l, err := d.Scan(x, n, by(index))
			wants(t, "Scan", err, api.OK)
			text += shownSeen(l) + "; "
		}
	}
	return text
}

// Tx4: what is released stays written, on the level below: so it goes with what is taken back there.
func TestRelease(t *testing.T) {
	d := two(t)
	x := begin(t, d, snapshot)
	saves(t, d, x, 1)
	updates(t, d, x, 1, pair(1, 1))
	saves(t, d, x, 2)
	updates(t, d, x, 1, pair(1, 2))
	saves(t, d, x, 3)
	updates(t, d, x, 1, pair(1, 3))
	inserts(t, d, x, pair(7, 7))
	wants(t, "Release", d.Release(x, 2), api.OK)
	gets(t, d, x, 1, "1 3")
	updates(t, d, x, 7, pair(7, 8))
	l, err := d.Latest(0, -1, all())
	wants(t, "Latest", err, api.OK)
	wants(t, "what is there", shownHeld(l), "slot 0: 1 0@1 by 2: 1 3 on 1; slot 1: 2 0@1; slot 2: by 2: 7 8 on 1")
	wants(t, "Back", d.Back(x, 1), api.OK)
	sees(t, d, x, by(-1), "1 0, 2 0")
	updates(t, d, x, 2, pair(2, 2))
	wants(t, "Release of all", d.Release(x, 1), api.OK)
	commits(t, d, x, 2)
	rowsAt(t, d, 2, "1 0, 2 2")
}

// Words: what is noted stays noted, whatever goes Back.
func TestBackLeavesWhatIsNoted(t *testing.T) {
	d := two(t)
	x := begin(t, d, serial)
	saves(t, d, x, 1)
	gets(t, d, x, 9, "")
	updates(t, d, x, 1, pair(1, 5))
	f, err := d.Foot(x)
	wants(t, "Foot", err, api.OK)
	wants(t, "Back", d.Back(x, 1), api.OK)
	footIs(t, d, x, f)
	footIs(t, d, x, api.Foot{Points: []api.Point{at(-1, 1), at(-1, 9)}, Writes: []api.Point{at(-1, 1), at(0, 0, 1), at(0, 5, 1)}})
	wants(t, "Release", d.Release(x, 1), api.OK)
	footIs(t, d, x, f)
}

// Tx3, Tx4: a row that was taken back is free for others at once; its slot too.
func TestBackSetsRowsFree(t *testing.T) {
	d := two(t)
	x, y := begin(t, d, snapshot), begin(t, d, snapshot)
	saves(t, d, x, 1)
	updates(t, d, x, 1, pair(1, 5))
	inserts(t, d, x, pair(3, 3))
	wants(t, "Update beside it", d.Update(y, 0, key(1), pair(1, 6)), api.ErrBusy)
	wants(t, "Insert beside it", d.Insert(y, 0, pair(3, 6)), api.ErrBusy)
	wants(t, "Back", d.Back(x, 1), api.OK)
	updates(t, d, y, 1, pair(1, 6))
	inserts(t, d, y, pair(4, 4))
	entries(t, d, -1, "1: 0, 2: 1, 4: 2")
	wants(t, "Insert", d.Insert(x, 0, pair(4, 5)), api.ErrBusy)
	inserts(t, d, x, pair(3, 4))
	entries(t, d, -1, "1: 0, 2: 1, 3: 3, 4: 2")
	commits(t, d, y, 2)
	commits(t, d, x, 3)
	rowsAt(t, d, 3, "1 6, 2 0, 3 4, 4 4")
}
