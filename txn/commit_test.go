package txn_test

import (
	"slices"
	"strings"
	"testing"

	"vellum/api"
	"vellum/txn"
)

// Tx5: who wrote nothing, or took all back, commits at its snapshot; of LevelCommitted at the frontier.
func TestCommitOfReaders(t *testing.T) {
	d := two(t)
	for level := committed; level <= serial; level++ {
		idle, reads, back := begin(t, d, level), begin(t, d, level), begin(t, d, level)
		from := d.Frontier()
		sees(t, d, reads, api.Scan{Index: -1, Range: upTo(1, 3), Most: 9}, "1 0, 2 0")
		saves(t, d, back, 1)
		updates(t, d, back, 2, pair(2, 9))
		inserts(t, d, back, pair(50, 0))
		wants(t, "Back", d.Back(back, 1), api.OK)
		done(t, d, func(x int) { inserts(t, d, x, pair(int64(100+level), 0)) })
		if level == committed {
			from = d.Frontier()
		}
		was := d.Frontier()
		commits(t, d, idle, from)
		commits(t, d, reads, from)
		commits(t, d, back, from)
		wants(t, "the frontier", d.Frontier(), was)
		wants(t, "the active ones", len(d.Active()), 0)
	}
}

// Tx5: a commit's stamp is one more than the last one, and then the frontier; what it wrote is seen from there on, whole.
func TestCommit(t *testing.T) {
	d := madeOf(t, pairs("t"), pairs("u"))
	for i := range uint64(5) {
		x := begin(t, d, committed+int(i%3))
		inserts(t, d, x, pair(int64(i), 1))
		wants(t, "Insert", d.Insert(x, 1, pair(int64(i), 2)), api.OK)
		commits(t, d, x, i+1)
		wants(t, "the frontier", d.Frontier(), i+1)
	}
	for stamp := range uint64(6) {
		for n := range 2 {
			rows, err := d.At(n, stamp)
			wants(t, "At", err, api.OK)
			wants(t, "how many rows", len(rows), int(stamp))
		}
	}
}

// Tx5: who inserted and deleted a row wrote, and has a stamp of its own; there is nothing of it then.
func TestCommitOfNothingThatIsLeft(t *testing.T) {
	d := two(t)
	x, y := begin(t, d, serial), begin(t, d, snapshot)
	inserts(t, d, x, pair(3, 3))
	deletes(t, d, x, 3)
	infoIs(t, d, x, api.Info{Level: serial, Snapshot: 1, Writes: 1})
	commits(t, d, x, 2)
	entries(t, d, -1, "1: 0, 2: 1")
	entries(t, d, 0, "0 1: 0, 0 2: 1")
	rowsAt(t, d, 2, "1 0, 2 0")
	inserts(t, d, y, pair(3, 4))
	entries(t, d, -1, "1: 0, 2: 1, 3: 2")
	commits(t, d, y, 3)
}

// serialOver is a database with three rows, and a serializable one that reads something of it and writes row 9.
func serialOver(t *testing.T, reads func(d *txn.DB, x int)) (*txn.DB, int) {
	t.Helper()
	d := filled(t, pair(1, 10), pair(2, 20), pair(3, 30))
	x := begin(t, d, serial)
	reads(d, x)
	inserts(t, d, x, pair(9, 90))
	return d, x
}

// Tx5: ErrSerial just where a commit behind the snapshot wrote a point that was read.
func TestSerialCommit(t *testing.T) {
	reads := map[string]func(d *txn.DB, x int){
		"a row":          func(d *txn.DB, x int) { gets(t, d, x, 1, "1 10") },
		"no row":         func(d *txn.DB, x int) { gets(t, d, x, 5, "") },
		"a range":        func(d *txn.DB, x int) { sees(t, d, x, api.Scan{Index: -1, Range: upTo(2, 5), Most: 9}, "2 20, 3 30") },
		"an index":       func(d *txn.DB, x int) { sees(t, d, x, api.Scan{Index: 0, Range: upTo(15, 25), Most: 9}, "2 20") },
		"the first one":  func(d *txn.DB, x int) { sees(t, d, x, api.Scan{Index: -1, Range: all(), Most: 1}, "1 10") },
		"the last one":   func(d *txn.DB, x int) { sees(t, d, x, api.Scan{Index: 0, Range: all(), Most: 1, Back: true}, "3 30") },
		"nothing":        func(d *txn.DB, x int) {},
		"a refused one":  func(d *txn.DB, x int) { wants(t, "Insert", d.Insert(x, 0, pair(2, 0)), api.ErrExists) },
		"a tried one":    func(d *txn.DB, x int) { wants(t, "TryDelete", d.TryDelete(x, 0, key(4)), api.ErrMissing) },
		"one taken back": func(d *txn.DB, x int) { d.Save(x); d.Update(x, 0, key(3), pair(4, 1)); d.Back(x, 1) },
	}
	for _, c := range []struct {
		what  string
		write func(d *txn.DB, x int)
		met   string
	}{
		{"an update of 1", func(d *txn.DB, x int) { updates(t, d, x, 1, pair(1, 11)) }, "a row, the first one"},
		{"an update of 1 into the index", func(d *txn.DB, x int) { updates(t, d, x, 1, pair(1, 20)) }, "a row, the first one, an index"},
		{"an update of 2 in the index", func(d *txn.DB, x int) { updates(t, d, x, 2, pair(2, 20)) }, "a range, an index, a refused one"},
		{"an update of 2 out of the index", func(d *txn.DB, x int) { updates(t, d, x, 2, pair(2, 50)) }, "a range, an index, a refused one, the last one"},
		{"a delete of 2", func(d *txn.DB, x int) { deletes(t, d, x, 2) }, "a range, an index, a refused one"},
		{"a delete of 3", func(d *txn.DB, x int) { deletes(t, d, x, 3) }, "a range, the last one, one taken back"},
		{"an insert of 0", func(d *txn.DB, x int) { inserts(t, d, x, pair(0, 0)) }, "the first one"},
		{"an insert of 4", func(d *txn.DB, x int) { inserts(t, d, x, pair(4, 0)) }, "a range, a tried one, one taken back"},
		{"an insert of 5", func(d *txn.DB, x int) { inserts(t, d, x, pair(5, 0)) }, "no row"},
		{"an insert of 6 into the index", func(d *txn.DB, x int) { inserts(t, d, x, pair(6, 24)) }, "an index"},
		{"an insert of 6 behind the last one", func(d *txn.DB, x int) { inserts(t, d, x, pair(6, 31)) }, "the last one"},
		{"a move of 1 to 4", func(d *txn.DB, x int) { updates(t, d, x, 1, pair(4, 10)) }, "a row, a range, the first one, a tried one, one taken back"},
		{"an insert and a delete of 5", func(d *txn.DB, x int) { inserts(t, d, x, pair(5, 0)); deletes(t, d, x, 5) }, "no row"},
		{"one of 1 that is taken back", func(d *txn.DB, x int) {
			inserts(t, d, x, pair(7, 0))
			saves(t, d, x, 1)
			updates(t, d, x, 1, pair(1, 11))
			wants(t, "Back", d.Back(x, 1), api.OK)
		}, "a row, the first one"},
	} {
		for what, read := range reads {
			d, x := serialOver(t, read)
			done(t, d, func(y int) { c.write(d, y) })
			if isNamed(c.met, what) {
				refusedAt(t, d, x, api.ErrSerial)
				wants(t, "Abort behind it", d.Abort(x), api.ErrTxn)
				rowsAt(t, d, 1, "1 10, 2 20, 3 30")
				held, _ := d.Latest(0, -1, upTo(9, 10))
				wants(t, "what is left of it", shownHeld(held), "")
				continue
			}
			commits(t, d, x, 3)
		}
	}
}

func isNamed(list, word string) bool { return slices.Contains(strings.Split(list, ", "), word) }

// Tx5: what others wrote ahead of the begin, and what is not committed, is in nobody's way; nor what one wrote oneself.
func TestSerialCommitBesideOthers(t *testing.T) {
	d := two(t)
	early := begin(t, d, serial)
	done(t, d, func(x int) { updates(t, d, x, 1, pair(1, 1)) })
	x := begin(t, d, serial)
	other := begin(t, d, serial)
	updates(t, d, other, 2, pair(2, 2))
	sees(t, d, x, by(-1), "1 1, 2 0")
	updates(t, d, x, 1, pair(1, 2))
	commits(t, d, x, 3)
	aborts(t, d, other)
	sees(t, d, early, by(-1), "1 0, 2 0")
	inserts(t, d, early, pair(5, 5))
	refusedAt(t, d, early, api.ErrSerial)
	// Who only reads commits at its snapshot, whatever came since.
	reader := begin(t, d, serial)
	sees(t, d, reader, by(-1), "1 2, 2 0")
	done(t, d, func(x int) { updates(t, d, x, 1, pair(1, 3)) })
	sees(t, d, reader, by(-1), "1 2, 2 0")
	commits(t, d, reader, 3)
}

// Tx5: ErrFull, for all, as long as a serializable one is active that is MaxLog commits behind; nothing is changed then.
func TestCommitFull(t *testing.T) {
	d := two(t)
	old := begin(t, d, serial)
	sees(t, d, old, api.Scan{Index: -1, Range: upTo(5, 9), Most: 9}, "")
	beside := begin(t, d, snapshot)
	inserts(t, d, beside, pair(-1, 0))
	for i := range uint64(4096) {
		x := begin(t, d, snapshot)
		updates(t, d, x, 1, pair(1, int64(i)))
		commits(t, d, x, i+2)
	}
	inserts(t, d, old, pair(100, 0))
	full := begin(t, d, committed)
	inserts(t, d, full, pair(101, 0))
	refusedAt(t, d, full, api.ErrFull)
	refusedAt(t, d, beside, api.ErrFull)
	refusedAt(t, d, old, api.ErrFull)
	infoIs(t, d, full, api.Info{Level: committed, Snapshot: 4097, Writes: 1})
	infoIs(t, d, old, api.Info{Level: serial, Snapshot: 1, Writes: 1})
	reader := begin(t, d, serial)
	commits(t, d, reader, 4097)
	aborts(t, d, old)
	commits(t, d, beside, 4098)
	commits(t, d, full, 4099)
	// It is told behind ErrSerial, and of each one that is too far behind.
	old = begin(t, d, serial)
	gets(t, d, old, 2, "2 0")
	inserts(t, d, old, pair(102, 0))
	later := begin(t, d, serial)
	gets(t, d, later, 1, "1 4095")
	done(t, d, func(x int) { updates(t, d, x, 2, pair(2, 1)) })
	for range 4095 {
		done(t, d, func(x int) { updates(t, d, x, 1, pair(1, 7)) })
	}
	full = begin(t, d, serial)
	inserts(t, d, full, pair(103, 0))
	refusedAt(t, d, full, api.ErrFull)
	refusedAt(t, d, old, api.ErrSerial)
	refusedAt(t, d, full, api.ErrFull)
	inserts(t, d, later, pair(104, 0))
	refusedAt(t, d, later, api.ErrSerial)
	commits(t, d, full, 4099+4097)
}

// Tx5: commits that no serializable one was there for, however many, are in nobody's way; those behind them are.
func TestSerialCommitBehindManyOthers(t *testing.T) {
	d := two(t)
	for range 5000 {
		done(t, d, func(x int) { updates(t, d, x, 1, pair(1, 1)) })
	}
	x := begin(t, d, serial)
	gets(t, d, x, 1, "1 1")
	inserts(t, d, x, pair(3, 3))
	done(t, d, func(y int) { inserts(t, d, y, pair(4, 4)) })
	commits(t, d, x, 5003)
	x = begin(t, d, serial)
	gets(t, d, x, 1, "1 1")
	inserts(t, d, x, pair(5, 5))
	done(t, d, func(y int) { updates(t, d, y, 1, pair(1, 2)) })
	refusedAt(t, d, x, api.ErrSerial)
	for range 5000 {
		done(t, d, func(x int) { updates(t, d, x, 1, pair(1, 1)) })
	}
	x = begin(t, d, serial)
	gets(t, d, x, 1, "1 1")
	inserts(t, d, x, pair(5, 5))
	done(t, d, func(y int) { updates(t, d, y, 1, pair(1, 2)) })
	refusedAt(t, d, x, api.ErrSerial)
}

// Tx5: ErrEnd, if no stamp is left, and it stays active; ErrSerial is ahead of it.
func TestCommitAtTheEnd(t *testing.T) {
	last := uint64(1 << 62)
	d, err := txn.Load([]api.Table{pairs("t")}, [][][]api.Value{{pair(1, 0)}}, last-1)
	wants(t, "Load", err, api.OK)
	stale := begin(t, d, serial)
	gets(t, d, stale, 1, "1 0")
	inserts(t, d, stale, pair(3, 3))
	done(t, d, func(x int) { updates(t, d, x, 1, pair(1, 1)) })
	wants(t, "the frontier", d.Frontier(), last)
	for level := committed; level <= serial; level++ {
		x := begin(t, d, level)
		updates(t, d, x, 1, pair(1, 2))
		was := state(t, d)
		refusedAt(t, d, x, api.ErrEnd)
		refusedAt(t, d, x, api.ErrEnd)
		wants(t, "the state", state(t, d), was)
		aborts(t, d, x)
		commits(t, d, begin(t, d, level), last)
	}
	refusedAt(t, d, stale, api.ErrSerial)
	rowsAt(t, d, last-1, "1 0")
	rowsAt(t, d, last, "1 1")
}

// Tx5: what is aborted leaves nothing: no row, no entry, no number of an active one.
func TestAbort(t *testing.T) {
	for level := committed; level <= serial; level++ {
		d := filled(t, pair(1, 5), pair(2, 6), pair(3, 7))
		was := state(t, d)
		x := begin(t, d, level)
		updates(t, d, x, 1, pair(1, 8))
		saves(t, d, x, 1)
		updates(t, d, x, 2, pair(9, 9))
		deletes(t, d, x, 3)
		inserts(t, d, x, pair(3, 1))
		aborts(t, d, x)
		wants(t, "the state", state(t, d), was)
		wants(t, "Abort again", d.Abort(x), api.ErrTxn)
		y := begin(t, d, level)
		sees(t, d, y, by(0), "1 5, 2 6, 3 7")
		inserts(t, d, y, pair(9, 1))
		commits(t, d, y, 2)
		entries(t, d, -1, "1: 0, 2: 1, 3: 2, 9: 3")
	}
}

// Tx5: entries are put when a row is written, stay as long as its row has an intent, and are swept behind that.
func TestEntries(t *testing.T) {
	d := filled(t, pair(1, 5))
	x := begin(t, d, snapshot)
	updates(t, d, x, 1, pair(1, 6))
	entries(t, d, 0, "5 1: 0, 6 1: 0")
	updates(t, d, x, 1, pair(1, 7))
	saves(t, d, x, 1)
	updates(t, d, x, 1, pair(1, 8))
	entries(t, d, 0, "5 1: 0, 6 1: 0, 7 1: 0, 8 1: 0")
	wants(t, "Back", d.Back(x, 1), api.OK)
	entries(t, d, 0, "5 1: 0, 6 1: 0, 7 1: 0, 8 1: 0")
	// Others that end beside it leave them.
	done(t, d, func(y int) { inserts(t, d, y, pair(2, 2)) })
	y := begin(t, d, snapshot)
	inserts(t, d, y, pair(3, 3))
	updates(t, d, y, 3, pair(3, 4))
	entries(t, d, 0, "2 2: 1, 3 3: 2, 4 3: 2, 5 1: 0, 6 1: 0, 7 1: 0, 8 1: 0")
	commits(t, d, y, 3)
	entries(t, d, 0, "2 2: 1, 4 3: 2, 5 1: 0, 6 1: 0, 7 1: 0, 8 1: 0")
	commits(t, d, x, 4)
	entries(t, d, 0, "2 2: 1, 4 3: 2, 5 1: 0, 7 1: 0")
}

// Tx5, Tx7: an entry that only an intent kept, while the versions that had it were pruned, goes with the intent.
func TestEntriesThatPruneLeaves(t *testing.T) {
	for what, c := range map[string]struct {
		end  func(d *txn.DB, x int)
		want string
	}{
		"Commit": {func(d *txn.DB, x int) { commits(t, d, x, 4) }, "1 2: 1, 7 1: 0, 8 1: 0"},
		"Abort":  {func(d *txn.DB, x int) { aborts(t, d, x) }, "1 2: 1, 7 1: 0"},
		"Back":   {func(d *txn.DB, x int) { wants(t, "Back", d.Back(x, 1), api.OK) }, "1 2: 1, 7 1: 0"},
	} {
		d := filled(t, pair(1, 5), pair(2, 1))
		done(t, d, func(y int) { updates(t, d, y, 1, pair(1, 6)) })
		done(t, d, func(y int) { updates(t, d, y, 1, pair(1, 7)) })
		x := begin(t, d, snapshot)
		saves(t, d, x, 1)
		updates(t, d, x, 1, pair(1, 8))
		p, err := d.Prune(3)
		if p != (api.Pruned{Versions: 2}) || err != api.OK {
			t.Fatalf("Prune: %+v, error %d", p, err)
		}
		entries(t, d, 0, "1 2: 1, 5 1: 0, 6 1: 0, 7 1: 0, 8 1: 0")
		c.end(d, x)
		l, _ := d.Entries(0, 0, all())
		wants(t, "the entries behind "+what, shownHits(l), c.want)
	}
}
