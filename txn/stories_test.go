package txn_test

import (
	"fmt"
	"testing"

	"vellum/api"
	"vellum/txn"
)

// call is something that a transaction asks for.
type call struct {
	do    int
	table int
	key   []api.Value
	row   []api.Value
	q     api.Scan
	save  int
}

const (
	doGet = iota
	doScan
	doInsert
	doUpdate
	doDelete
	doSave
	doBack
	doRelease
)

// make makes a call: all that is told, but for slots.
func (c call) make(d *txn.DB, x int) (string, api.Errno) {
	switch c.do {
	case doGet:
		row, there, err := d.Get(x, c.table, c.key)
		return told(shownRow(row), there), err
	case doScan:
		l, err := d.Scan(x, c.table, c.q)
		text := ""
		for _, s := range l {
			text += fmt.Sprintf("%q: %s; ", s.Key, shownRow(s.Row))
		}
		return text, err
	case doInsert:
		return "", d.Insert(x, c.table, c.row)
	case doUpdate:
		return "", d.Update(x, c.table, c.key, c.row)
	case doDelete:
		return "", d.Delete(x, c.table, c.key)
	case doSave:
		n, err := d.Save(x)
		return told(n), err
	case doBack:
		return "", d.Back(x, c.save)
	default:
		return "", d.Release(x, c.save)
	}
}

// chapter is a call, and what was told.
type chapter struct {
	call
	told string
	err  api.Errno
}

// story is a transaction, from its begin to its end.
type story struct {
	number int
	level  int
	begun  uint64
	calls  []chapter
	wrote  bool
	stamp  uint64
	// err is what its Commit was told; ErrTxn: it was aborted.
	err api.Errno
}

func newStory(t *testing.T, d *txn.DB, level int) *story {
	t.Helper()
	x := begin(t, d, level)
	info, err := d.Info(x)
	wants(t, "Info", err, api.OK)
	return &story{number: x, level: level, begun: info.Snapshot}
}

func (s *story) goesOn(d *txn.DB, c call) chapter {
	text, err := c.make(d, s.number)
	s.calls = append(s.calls, chapter{c, text, err})
	return s.calls[len(s.calls)-1]
}

func (s *story) ends(d *txn.DB, abort bool) {
	info, _ := d.Info(s.number)
	s.wrote = info.Writes > 0
	if abort {
		s.err = api.ErrTxn
		d.Abort(s.number)
		return
	}
	s.stamp, s.err = d.Commit(s.number)
}

// teller makes calls by chance.
type teller struct {
	*chance
	t      *testing.T
	tabs   []api.Table
	wheres []api.Expr
	// count makes each row another one.
	count int64
	keys  int
}

func newTeller(t *testing.T, seed int, keys int) *teller {
	return &teller{chance: &chance{uint64(seed)}, t: t, tabs: []api.Table{pairs("t"), pairs("u")}, keys: keys, wheres: []api.Expr{
		{}, {}, where(t, pairs("t"), "b % 3 = 0"), where(t, pairs("t"), "10 / (b - 3) < 5"),
	}}
}

func (w *teller) key() int64 { return int64(w.below(w.keys)) }

func (w *teller) row() []api.Value {
	w.count++
	return pair(w.key(), w.count)
}

func (w *teller) scan() api.Scan {
	lo := w.key()
	q := api.Scan{Index: w.below(2) - 1, Range: upTo(lo, lo+1+w.key()), Where: one(w.chance, w.wheres...), Back: w.below(2) == 0, Most: one(w.chance, 1, 2, many)}
	if q.Index == 0 {
		lo := w.count - int64(w.below(20))
		q.Range = upTo(lo, lo+1+int64(w.below(9)))
	}
	if w.below(12) == 0 {
		q.Range = all()
	}
	return q
}

func (w *teller) call(savepoints bool) call {
	c := call{do: w.below(doSave), table: w.below(2), key: key(w.key()), row: w.row(), q: w.scan(), save: 1 + w.below(3)}
	if savepoints && w.below(5) == 0 {
		c.do = doSave + w.below(3)
	}
	return c
}

// isTaken tells whether a call is refused only since others are there: one behind the other it is not.
func isTaken(err api.Errno) bool { return err == api.ErrBusy || err == api.ErrNewer }

// replays is Tx10: a serializable one would have been told the same, had it run whole just ahead of its stamp; of one that wrote nothing: behind its stamp. And it would have left the same.
func (s *story) replays(t *testing.T, d *txn.DB) {
	t.Helper()
	from := s.stamp
	if s.wrote {
		from--
	}
	again, err := txn.Load(d.Tables(), rowsOfAll(t, d, from), from)
	wants(t, "Load", err, api.OK)
	x := begin(t, again, serial)
	for i, c := range s.calls {
		if isTaken(c.err) {
			continue
		}
		text, err := c.make(again, x)
		if text != c.told || err != c.err {
			t.Fatalf("transaction %d from %d, stamp %d: its call %d, %+v, was told %q, error %d, and alone %q, error %d", s.number, s.begun, s.stamp, i, c.call, c.told, c.err, text, err)
		}
	}
	commits(t, again, x, s.stamp)
	wants(t, "what it left", shownAllRows(rowsOfAll(t, again, s.stamp)), shownAllRows(rowsOfAll(t, d, s.stamp)))
}

func rowsOfAll(t *testing.T, d *txn.DB, stamp uint64) [][][]api.Value {
	t.Helper()
	var l [][][]api.Value
	for n := range d.Tables() {
		rows, err := d.At(n, stamp)
		wants(t, "At", err, api.OK)
		l = append(l, rows)
	}
	return l
}

func shownAllRows(l [][][]api.Value) string {
	text := ""
	for _, rows := range l {
		text += shownRows(rows) + "; "
	}
	return text
}

// left is what a transaction would leave now: by the table and the key the row, or gone.
func left(t *testing.T, d *txn.DB, x int) map[string]string {
	t.Helper()
	m := map[string]string{}
	for n := range d.Tables() {
		held, err := d.Latest(n, -1, all())
		wants(t, "Latest", err, api.OK)
		for _, h := range held {
			if h.Intent.Txn != x {
				continue
			}
			last := h.Intent.Writes[len(h.Intent.Writes)-1]
			m[told(n, "/", keyOfHeld(h))] = shownWrite(last.Gone, last.Row)
		}
	}
	return m
}

// keyOfHeld is the int that is the key of a row of pairs.
func keyOfHeld(h api.Held) int64 {
	for _, v := range h.Versions {
		if !v.Gone {
			return v.Row[0].N
		}
	}
	for _, w := range h.Intent.Writes {
		if !w.Gone {
			return w.Row[0].N
		}
	}
	return -1
}

// tableOf is the rows of all tables at a stamp, by the table and the key.
func tableOf(t *testing.T, d *txn.DB, stamp uint64) map[string]string {
	t.Helper()
	m := map[string]string{}
	for n, rows := range rowsOfAll(t, d, stamp) {
		for _, row := range rows {
			m[told(n, "/", row[0].N)] = shownRow(row)
		}
	}
	return m
}

// run lets transactions of some levels go on side by side, step by step: all that ended. Ahead of each step, and ahead of each Commit and Abort, it is told.
type run struct {
	*teller
	d       *txn.DB
	levels  []int
	most    int
	saves   bool
	active  []*story
	ended   []*story
	ending  func(s *story, abort bool) func()
	between func()
}

func (r *run) step() {
	if len(r.active) == 0 || len(r.active) < r.most && r.below(6) == 0 {
		r.active = append(r.active, newStory(r.t, r.d, one(r.chance, r.levels...)))
		return
	}
	i := r.below(len(r.active))
	s := r.active[i]
	if r.below(7) > 0 {
		s.goesOn(r.d, r.call(r.saves))
		return
	}
	abort := r.below(6) == 0
	behind := func() {}
	if r.ending != nil {
		behind = r.ending(s, abort)
	}
	s.ends(r.d, abort)
	r.active = append(r.active[:i], r.active[i+1:]...)
	r.ended = append(r.ended, s)
	behind()
}

func (r *run) goesOn(steps int) {
	r.t.Helper()
	for range steps {
		r.step()
		if r.between != nil {
			r.between()
		}
	}
}
