package txn_test

import (
	"strings"
	"testing"

	"vellum/api"
	"vellum/lit"
	"vellum/txn"
)

// Tx3: what is refused of a row, ahead of all that is there.
func TestRowsThatMayNotBe(t *testing.T) {
	texts := func(a, b string) []api.Value { return []api.Value{lit.Float(1), lit.Int(2), lit.Text(a), lit.Text(b)} }
	x := strings.Repeat
	for what, c := range map[string]struct {
		row  []api.Value
		want api.Errno
	}{
		"nothing":                   {nil, api.ErrArg},
		"too short":                 {texts("c", "d")[:3], api.ErrArg},
		"too long":                  {append(texts("c", "d"), lit.Null()), api.ErrArg},
		"a value that may not be":   {texts("\xff", "d"), api.ErrValue},
		"a value that is too long":  {texts("c", x("d", 1<<16+1)), api.ErrLong},
		"null in the key":           {[]api.Value{lit.Null(), lit.Null(), lit.Null(), lit.Text("d")}, api.ErrNull},
		"another kind":              {[]api.Value{lit.Float(1), lit.Float(2), lit.Null(), lit.Text("d")}, api.ErrColumn},
		"a key of 1025 bytes":       {texts("c", x("d", 1014)), api.ErrLong},
		"an index's key of 1025":    {texts(x("c", 1008), "d"), api.ErrLong},
		"an index's key of 1024":    {texts(x("c", 1007), "d"), api.OK},
		"a row of 65537 bytes":      {texts(x("c", 1<<16-1), "d"), api.ErrLong},
		"the last index's, of 1025": {[]api.Value{lit.Float(1), lit.Null(), lit.Null(), lit.Text(x("d", 1005))}, api.ErrLong},
		"the last index's, of 1024": {[]api.Value{lit.Float(1), lit.Null(), lit.Null(), lit.Text(x("d", 1004))}, api.OK},
		"zero bytes, each as two":   {texts(x("\x00", 502), "\x00\x00"), api.OK},
		"one more of these":         {texts(x("\x00", 503), "\x00\x00"), api.ErrLong},
	} {
		d := madeOf(t, wide("w"))
		n := begin(t, d, serial)
		wants(t, "TryInsert of "+what, d.TryInsert(n, 0, c.row), c.want)
		wants(t, "Insert of "+what, d.Insert(n, 0, c.row), c.want)
		if c.want != api.OK {
			wants(t, "Update to "+what, d.Update(n, 0, []api.Value{lit.Text("d"), lit.Float(1)}, c.row), c.want)
			wants(t, "TryUpdate to "+what, d.TryUpdate(n, 0, []api.Value{lit.Text("d"), lit.Float(1)}, c.row), c.want)
			_, err := txn.Load([]api.Table{wide("w")}, [][][]api.Value{{c.row}}, 1)
			wants(t, "Load of "+what, err, c.want)
			footIs(t, d, n, api.Foot{})
		}
	}
}

// Tx3: a row whose bytes are more than MaxRow, though each value and each key may be.
func TestRowsThatAreTooLong(t *testing.T) {
	tab := api.Table{
		Name:    "t",
		Columns: []api.Column{{Name: "a", Kind: api.KindInt}, {Name: "b", Kind: api.KindBytes}, {Name: "c", Kind: api.KindBytes}},
		Key:     []int{0},
	}
	// A byte of pairs, one of the int, two and three of the lengths.
	row := func(more int) []api.Value {
		return []api.Value{lit.Int(1), lit.Bytes(strings.Repeat("b", 200)), lit.Bytes(strings.Repeat("c", 1<<16-200-2-2-3+more))}
	}
	d := madeOf(t, tab)
	x := begin(t, d, serial)
	wants(t, "Insert of 65537 bytes", d.Insert(x, 0, row(1)), api.ErrLong)
	footIs(t, d, x, api.Foot{})
	wants(t, "Insert of 65536 bytes", d.Insert(x, 0, row(0)), api.OK)
	wants(t, "Update to 65537 bytes", d.Update(x, 0, key(1), row(1)), api.ErrLong)
	wants(t, "Update", d.Update(x, 0, key(1), row(0)), api.OK)
}

// Tx3: Insert, Update and Delete of rows that are there and are not, and what their writer sees then.
func TestWrites(t *testing.T) {
	d := two(t)
	x := begin(t, d, snapshot)
	wants(t, "Insert of one that is there", d.Insert(x, 0, pair(1, 9)), api.ErrExists)
	wants(t, "Update of none", d.Update(x, 0, key(3), pair(3, 9)), api.ErrMissing)
	wants(t, "Update of none to one that is there", d.Update(x, 0, key(3), pair(1, 9)), api.ErrMissing)
	wants(t, "Delete of none", d.Delete(x, 0, key(3)), api.ErrMissing)
	wants(t, "Update to one that is there", d.Update(x, 0, key(1), pair(2, 9)), api.ErrExists)
	updates(t, d, x, 1, pair(1, 4))
	updates(t, d, x, 1, pair(3, 5))
	sees(t, d, x, by(-1), "2 0, 3 5")
	sees(t, d, x, by(0), "2 0, 3 5")
	wants(t, "Delete of the key that it had", d.Delete(x, 0, key(1)), api.ErrMissing)
	inserts(t, d, x, pair(1, 8))
	deletes(t, d, x, 2)
	wants(t, "Delete again", d.Delete(x, 0, key(2)), api.ErrMissing)
	updates(t, d, x, 3, pair(2, 7))
	sees(t, d, x, by(-1), "1 8, 2 7")
	sees(t, d, x, by(0), "2 7, 1 8")
	infoIs(t, d, x, api.Info{Level: snapshot, Snapshot: 1, Writes: 3})
	rowsAt(t, d, 1, "1 0, 2 0")
	commits(t, d, x, 2)
	rowsAt(t, d, 1, "1 0, 2 0")
	rowsAt(t, d, 2, "1 8, 2 7")
	entries(t, d, -1, "1: 0, 2: 1")
	entries(t, d, 0, "0 1: 0, 0 2: 1, 7 2: 1, 8 1: 0")
}

// Tx3, 1.: another one's intent is in the way, whatever is seen there; its own is not.
func TestBusy(t *testing.T) {
	for level := committed; level <= serial; level++ {
		d := filled(t, pair(1, 0), pair(2, 0), pair(3, 0))
		x, y := begin(t, d, snapshot), begin(t, d, level)
		updates(t, d, x, 1, pair(1, 1))
		deletes(t, d, x, 2)
		inserts(t, d, x, pair(4, 4))
		for _, k := range []int64{1, 2, 4} {
			wants(t, "Insert", d.Insert(y, 0, pair(k, 9)), api.ErrBusy)
			wants(t, "Update", d.Update(y, 0, key(k), pair(k, 9)), api.ErrBusy)
			wants(t, "Update to it", d.Update(y, 0, key(3), pair(k, 9)), api.ErrBusy)
			wants(t, "Update from it", d.Update(y, 0, key(k), pair(3, 9)), api.ErrBusy)
			wants(t, "Update of none to it", d.Update(y, 0, key(7), pair(k, 9)), api.ErrMissing)
			wants(t, "Delete", d.Delete(y, 0, key(k)), api.ErrBusy)
			wants(t, "TryInsert", d.TryInsert(y, 0, pair(k, 9)), api.ErrBusy)
			wants(t, "TryUpdate", d.TryUpdate(y, 0, key(3), pair(k, 9)), api.ErrBusy)
			wants(t, "TryDelete", d.TryDelete(y, 0, key(k)), api.ErrBusy)
		}
		deletes(t, d, x, 4)
		wants(t, "Insert where another one inserted and deleted", d.Insert(y, 0, pair(4, 9)), api.ErrBusy)
		updates(t, d, y, 3, pair(3, 5))
		infoIs(t, d, y, api.Info{Level: level, Snapshot: 1, Writes: 1})
		aborts(t, d, x)
		updates(t, d, y, 1, pair(4, 5))
		deletes(t, d, y, 2)
		commits(t, d, y, 2)
		rowsAt(t, d, 2, "3 5, 4 5")
	}
}

// Tx3, 2.: a version behind the snapshot is in the way of all but those of LevelCommitted, whatever was seen there.
func TestNewer(t *testing.T) {
	for level := committed; level <= serial; level++ {
		d := filled(t, pair(1, 0), pair(2, 0), pair(3, 0))
		y := begin(t, d, level)
		done(t, d, func(x int) {
			updates(t, d, x, 1, pair(1, 1))
			deletes(t, d, x, 2)
			inserts(t, d, x, pair(4, 4))
		})
		for k, errs := range map[int64][4]api.Errno{
			1: {api.ErrExists, api.OK, api.ErrExists, api.OK},
			2: {api.OK, api.ErrMissing, api.OK, api.ErrMissing},
			4: {api.ErrExists, api.OK, api.ErrExists, api.OK},
		} {
			if level != committed {
				errs = [4]api.Errno{api.ErrNewer, api.ErrNewer, api.ErrNewer, api.ErrNewer}
			}
			wants(t, "Insert", d.TryInsert(y, 0, pair(k, 9)), errs[0])
			wants(t, "Update", d.TryUpdate(y, 0, key(k), pair(k, 9)), errs[1])
			wants(t, "Update to it", d.TryUpdate(y, 0, key(3), pair(k, 9)), errs[2])
			wants(t, "Delete", d.TryDelete(y, 0, key(k)), errs[3])
		}
		updates(t, d, y, 3, pair(3, 5))
		if level == serial {
			refusedAt(t, d, y, api.ErrSerial) // it has read what is newer
			continue
		}
		commits(t, d, y, 3)
	}
}

// Tx3, 1. and 2.: what stands in the way is told ahead of what is seen, and that of the key ahead of that of the row.
func TestWhatIsInTheWayIsToldFirst(t *testing.T) {
	d := filled(t, pair(1, 0), pair(2, 0), pair(3, 0), pair(5, 0))
	y := begin(t, d, snapshot)
	done(t, d, func(x int) { updates(t, d, x, 1, pair(1, 1)) })
	busy := begin(t, d, snapshot)
	updates(t, d, busy, 2, pair(2, 2))
	wants(t, "from a newer one to a busy one", d.Update(y, 0, key(1), pair(2, 9)), api.ErrNewer)
	wants(t, "from a busy one to a newer one", d.Update(y, 0, key(2), pair(1, 9)), api.ErrBusy)
	wants(t, "from none to a busy one", d.Update(y, 0, key(9), pair(2, 9)), api.ErrMissing)
	wants(t, "from one that is there to a newer one", d.Update(y, 0, key(3), pair(1, 9)), api.ErrNewer)
	wants(t, "from one that is there to another one", d.Update(y, 0, key(3), pair(5, 9)), api.ErrExists)
	// A row that it has written itself is not in its way, whatever is committed beside it.
	updates(t, d, y, 3, pair(3, 9))
	done(t, d, func(x int) { inserts(t, d, x, pair(8, 8)) })
	updates(t, d, y, 3, pair(3, 10))
	deletes(t, d, y, 3)
	inserts(t, d, y, pair(3, 11))
	commits(t, d, y, 4)
}

// Tx3: a row that is gone for all leaves its slot, as long as it has versions; and its key a new one then.
func TestSlots(t *testing.T) {
	d := two(t)
	slotOf := func(k int64) int {
		l, err := d.Latest(0, -1, upTo(k, k+1))
		if err != api.OK || len(l) != 1 {
			t.Fatalf("Latest of %d: %v, error %d", k, l, err)
		}
		return l[0].Slot
	}
	reader := begin(t, d, snapshot)
	done(t, d, func(x int) { deletes(t, d, x, 1) })
	done(t, d, func(x int) { inserts(t, d, x, pair(1, 5)) })
	wants(t, "the slot of 1", slotOf(1), 0)
	done(t, d, func(x int) { updates(t, d, x, 1, pair(3, 5)) })
	wants(t, "the slot of 3", slotOf(3), 2)
	aborts(t, d, reader)
	d.Prune(4)
	done(t, d, func(x int) { inserts(t, d, x, pair(9, 5)) })
	wants(t, "the slot of 9", slotOf(9), 0)
	done(t, d, func(x int) { inserts(t, d, x, pair(1, 6)) })
	wants(t, "the slot of 1, again", slotOf(1), 3)
}

// Words: what is written is noted by all: in the table's key and in each index the keys of the row that was seen, and of the one that was written.
func TestWritesAreNoted(t *testing.T) {
	for what, c := range map[string]struct {
		do   func(d *txn.DB, x int) api.Errno
		want []api.Point
	}{
		"Insert":                   {func(d *txn.DB, x int) api.Errno { return d.Insert(x, 0, pair(3, 7)) }, []api.Point{at(-1, 3), at(0, 7, 3)}},
		"Update":                   {func(d *txn.DB, x int) api.Errno { return d.Update(x, 0, key(1), pair(1, 7)) }, []api.Point{at(-1, 1), at(0, 5, 1), at(0, 7, 1)}},
		"Update to the same":       {func(d *txn.DB, x int) api.Errno { return d.Update(x, 0, key(1), pair(1, 5)) }, []api.Point{at(-1, 1), at(0, 5, 1)}},
		"Update to another key":    {func(d *txn.DB, x int) api.Errno { return d.Update(x, 0, key(1), pair(3, 7)) }, []api.Point{at(-1, 1), at(-1, 3), at(0, 5, 1), at(0, 7, 3)}},
		"Delete":                   {func(d *txn.DB, x int) api.Errno { return d.Delete(x, 0, key(1)) }, []api.Point{at(-1, 1), at(0, 5, 1)}},
		"Insert that is refused":   {func(d *txn.DB, x int) api.Errno { d.Insert(x, 0, pair(1, 7)); return api.OK }, nil},
		"Delete that is refused":   {func(d *txn.DB, x int) api.Errno { d.Delete(x, 0, key(7)); return api.OK }, nil},
		"TryInsert":                {func(d *txn.DB, x int) api.Errno { return d.TryInsert(x, 0, pair(3, 7)) }, nil},
		"TryUpdate":                {func(d *txn.DB, x int) api.Errno { return d.TryUpdate(x, 0, key(1), pair(3, 7)) }, nil},
		"TryDelete":                {func(d *txn.DB, x int) api.Errno { return d.TryDelete(x, 0, key(1)) }, nil},
		"Insert where one is gone": {func(d *txn.DB, x int) api.Errno { return d.Insert(x, 0, pair(4, 7)) }, []api.Point{at(-1, 4), at(0, 7, 4)}},
		"two Updates": {func(d *txn.DB, x int) api.Errno {
			d.Update(x, 0, key(1), pair(1, 7))
			return d.Update(x, 0, key(1), pair(1, 8))
		}, []api.Point{at(-1, 1), at(0, 5, 1), at(0, 7, 1), at(0, 8, 1)}},
	} {
		for level := committed; level <= serial; level++ {
			d := filled(t, pair(1, 5), pair(2, 6), pair(4, 9))
			done(t, d, func(x int) { deletes(t, d, x, 4) })
			x := begin(t, d, level)
			wants(t, what, c.do(d, x), api.OK)
			f, err := d.Foot(x)
			if err != api.OK || shownPoints(f.Writes) != shownPoints(c.want) {
				t.Fatalf("%s notes %s, error %d, want %s", what, shownPoints(f.Writes), err, shownPoints(c.want))
			}
			if level != serial && size(f) != len(f.Writes) {
				t.Fatalf("%s notes that it reads: %s", what, shownFoot(f))
			}
		}
	}
}

// Tx3: a Try is told what the call is told, changes nothing but what is noted, and may be asked again and again.
func TestTry(t *testing.T) {
	d := filled(t, pair(1, 5), pair(2, 6), pair(3, 7))
	other, x := begin(t, d, committed), begin(t, d, serial)
	done(t, d, func(y int) { updates(t, d, y, 3, pair(3, 8)) })
	deletes(t, d, other, 2)
	updates(t, d, x, 1, pair(1, 6))
	saves(t, d, x, 1)
	rows := [][]api.Value{pair(1, 1), pair(2, 2), pair(3, 3), pair(4, 4), nil}
	for _, row := range rows {
		for range 3 {
			d.TryInsert(x, 0, row)
			for k := range int64(6) {
				d.TryUpdate(x, 0, key(k), row)
				d.TryDelete(x, 0, key(k))
			}
		}
	}
	was := state(t, d)
	try := func(what string, tried, told api.Errno) {
		t.Helper()
		wants(t, what, tried, told)
		if told == api.OK {
			wants(t, "Back", d.Back(x, 1), api.OK)
		}
	}
	for _, row := range rows {
		tried := d.TryInsert(x, 0, row)
		wants(t, "the state behind a Try", state(t, d), was)
		try("Insert", tried, d.Insert(x, 0, row))
		for k := range int64(6) {
			tried = d.TryUpdate(x, 0, key(k), row)
			try("Update", tried, d.Update(x, 0, key(k), row))
			tried = d.TryDelete(x, 0, key(k))
			try("Delete", tried, d.Delete(x, 0, key(k)))
		}
		was = state(t, d)
	}
}

// R2: a write that is refused leaves nothing.
func TestRefusedWritesLeaveNothing(t *testing.T) {
	d := filled(t, pair(1, 5), pair(2, 6), pair(3, 7))
	other, x := begin(t, d, committed), begin(t, d, snapshot)
	done(t, d, func(y int) { updates(t, d, y, 3, pair(3, 8)) })
	deletes(t, d, other, 2)
	was := state(t, d)
	for _, err := range []api.Errno{
		d.Insert(x, 0, pair(1, 1)), d.Insert(x, 0, pair(2, 1)), d.Insert(x, 0, pair(3, 1)), d.Insert(x, 0, nil),
		d.Update(x, 0, key(1), pair(2, 1)), d.Update(x, 0, key(1), pair(3, 1)), d.Update(x, 0, key(2), pair(1, 1)),
		d.Update(x, 0, key(3), pair(9, 9)), d.Update(x, 0, key(4), pair(9, 9)), d.Update(x, 0, nil, pair(9, 9)),
		d.Delete(x, 0, key(2)), d.Delete(x, 0, key(3)), d.Delete(x, 0, key(4)), d.Delete(x, 0, nil),
	} {
		if err == api.OK {
			t.Fatal("one was not refused")
		}
	}
	wants(t, "the state", state(t, d), was)
}
