package txn_test

import (
	"fmt"
	"testing"

	"vellum/api"
	"vellum/code"
	"vellum/lit"
	"vellum/pred"
	"vellum/txn"
)

// world is a database beside the chapter's words, of which the same is asked.
type world struct {
	t      *testing.T
	chance *chance
	db     *txn.DB
	plain  *plainDB
	// count makes each row another one.
	count int64
}

func worldTables() []api.Table { return []api.Table{pairs("t"), wide("w")} }

func newWorld(t *testing.T, seed int) *world {
	return &world{t: t, chance: &chance{uint64(seed)}, db: madeOf(t, worldTables()...), plain: newPlain(worldTables())}
}

func (w *world) below(n int) int { return w.chance.below(n) }

// txn is mostly one that is active.
func (w *world) txn() int {
	l := w.db.Active()
	if len(l) == 0 || w.below(40) == 0 {
		return w.below(5) - 2
	}
	return l[w.below(len(l))]
}

// table is seldom none.
func (w *world) table() int {
	if w.below(60) == 0 {
		return one(w.chance, -1, 2, 64)
	}
	return w.below(2)
}

func (w *world) float() api.Value {
	return one(w.chance, lit.Float(0), lit.Bits(1<<63), lit.Float(-1.5), lit.Bits(0x7FF8000000000007))
}

func (w *world) text() api.Value { return one(w.chance, lit.Text(""), lit.Text("a\x00")) }

func (w *world) int() api.Value {
	if w.below(4) == 0 {
		w.count++
		return lit.Int(100 + w.count)
	}
	return one(w.chance, lit.Null(), lit.Int(0), lit.Int(1), lit.Int(2))
}

// key is one of few; seldom one that may not be.
func (w *world) key(table int) []api.Value {
	if w.below(30) == 0 {
		return one(w.chance, nil, []api.Value{lit.Null()}, []api.Value{lit.Text("\xff"), lit.Float(1)}, []api.Value{lit.Float(1)})
	}
	if table == 1 {
		return []api.Value{w.text(), w.float()}
	}
	return key(int64(w.below(4)))
}

// row is one of few keys; seldom one that may not be.
func (w *world) row(table int) []api.Value {
	if w.below(30) == 0 {
		return one(w.chance, nil, []api.Value{lit.Null(), lit.Null()}, []api.Value{lit.Float(1)}, []api.Value{lit.Int(1), lit.Text("x")})
	}
	if table == 1 {
		return []api.Value{w.float(), w.int(), one(w.chance, lit.Null(), lit.Text("b")), w.text()}
	}
	return []api.Value{lit.Int(int64(w.below(4))), w.int()}
}

// keys is a range of keys, empty ones and ones with a Hi that does not matter among them.
func (w *world) keys() api.Range {
	if w.below(4) == 0 {
		return all()
	}
	end := func() string {
		l := []api.Value{one(w.chance, lit.Null(), lit.Int(int64(w.below(4))), lit.Int(101+int64(w.below(5))), w.text(), w.float())}
		k, _ := code.Encode(l)
		return one(w.chance, k, k, k+"\xff", "")
	}
	return api.Range{Lo: end(), Hi: end(), Open: w.below(3) == 0}
}

// condition is none, or one that takes some rows, or one that is refused for some, or for all.
func (w *world) condition(table int) api.Expr {
	if table < 0 || table > 1 || w.below(2) == 0 {
		return api.Expr{}
	}
	if w.below(20) == 0 {
		return one(w.chance, api.Expr{Kind: 9}, api.Expr{Kind: api.ExprColumn}, api.Expr{Kind: api.ExprColumn, Column: 9})
	}
	e, err := pred.Parse(worldTables()[table], one(w.chance, "b > 0", "b is null", "10 / b > 3", "true", "b + 9223372036854775706 > 0", "null"))
	wants(w.t, "Parse", err, api.OK)
	return e
}

func (w *world) scan(table int) api.Scan {
	q := api.Scan{Index: w.below(3) - 1, Range: w.keys(), Where: w.condition(table), Back: w.below(2) == 0, Most: one(w.chance, many, many, 0, 1, 2, -1)}
	if w.below(20) == 0 {
		q.Index = one(w.chance, -2, 2, 5)
	}
	return q
}

// same holds what both were told against each other.
func (w *world) same(what string, got, want string) {
	w.t.Helper()
	if got != want {
		w.t.Fatalf("%s: %s, want %s", what, got, want)
	}
}

func told(parts ...any) string { return fmt.Sprint(parts...) }

func (w *world) begins() {
	w.t.Helper()
	if len(w.db.Active()) > 6 {
		return
	}
	if w.below(5) == 0 {
		stamp := uint64(w.below(int(w.db.Frontier()) + 2))
		n, err := w.db.BeginAt(stamp)
		wantN, wantErr := w.plain.beginAt(stamp)
		w.same(told("BeginAt ", stamp), told(n, err), told(wantN, wantErr))
		return
	}
	level := 1 + w.below(3)
	if w.below(30) == 0 {
		level = one(w.chance, 0, 4)
	}
	n, err := w.db.Begin(level)
	wantN, wantErr := w.plain.begin(level)
	w.same(told("Begin ", level), told(n, err), told(wantN, wantErr))
}

func (w *world) reads() {
	w.t.Helper()
	x, table := w.txn(), w.table()
	if w.below(2) == 0 {
		k := w.key(table)
		l, there, err := w.db.Get(x, table, k)
		wantL, wantThere, wantErr := w.plain.get(x, table, k)
		w.same(told("Get by ", x, " of ", table, k), told(shownRow(l), there, err), told(shownRow(wantL), wantThere, wantErr))
		return
	}
	q := w.scan(table)
	l, err := w.db.Scan(x, table, q)
	want, wantErr := w.plain.scan(x, table, q)
	w.same(told("Scan by ", x, " of ", table, q), told(shownAll(l), err), told(shownAll(want), wantErr))
}

// shownAll is rows with their slots and keys.
func shownAll(l []api.Seen) string {
	text := ""
	for _, s := range l {
		text += fmt.Sprintf("%d by %q: %s; ", s.Slot, s.Key, shownRow(s.Row))
	}
	return text
}

func (w *world) writes() {
	w.t.Helper()
	x, table := w.txn(), w.table()
	k, row, try := w.key(table), w.row(table), w.below(5) == 0
	db := w.db
	insert, update, remove := db.Insert, db.Update, db.Delete
	if try {
		insert, update, remove = db.TryInsert, db.TryUpdate, db.TryDelete
	}
	var err, want api.Errno
	switch w.below(5) {
	case 0, 1:
		err, want = insert(x, table, row), w.plain.write(x, table, true, false, nil, row, try)
	case 2, 3:
		err, want = update(x, table, k, row), w.plain.write(x, table, false, false, k, row, try)
	case 4:
		err, want = remove(x, table, k), w.plain.write(x, table, false, true, k, nil, try)
	}
	w.same(told("a write by ", x, " of ", table, k, row, try), told(err), told(want))
}

func (w *world) savepoints() {
	w.t.Helper()
	x := w.txn()
	save := w.below(4)
	if info, err := w.db.Info(x); err == api.OK && info.Saves > 0 && w.below(4) > 0 {
		save = 1 + w.below(info.Saves)
	}
	switch w.below(4) {
	case 0, 1:
		n, err := w.db.Save(x)
		wantN, wantErr := w.plain.save(x)
		w.same("Save", told(n, err), told(wantN, wantErr))
	case 2:
		w.same("Back", told(w.db.Back(x, save)), told(w.plain.back(x, save)))
	case 3:
		w.same("Release", told(w.db.Release(x, save)), told(w.plain.release(x, save)))
	}
}

func (w *world) ends() {
	w.t.Helper()
	x := w.txn()
	switch w.below(5) {
	case 0:
		w.same("Abort", told(w.db.Abort(x)), told(w.plain.abort(x)))
	case 1:
		to := uint64(w.below(int(w.db.Frontier()) + 3))
		p, err := w.db.Prune(to)
		w.same(told("Prune to ", to), told(p, err), told(w.plain.prune(to), api.OK))
	default:
		stamp, err := w.db.Commit(x)
		want, wantErr := w.plain.commit(x)
		w.same(told("Commit of ", x), told(stamp, err), told(want, wantErr))
	}
}

// looks holds what is told of ranges and stamps of all kinds.
func (w *world) looks() {
	w.t.Helper()
	table, r := w.below(2), w.keys()
	index := w.below(len(w.db.Tables()[table].Indexes)+1) - 1
	held, err := w.db.Latest(table, index, r)
	w.same(told("Latest ", table, index, r), told(shownHeld(held), err), told(shownHeld(w.plain.latest(table, index, r)), api.OK))
	hits, err := w.db.Entries(table, index, r)
	w.same(told("Entries ", table, index, r), told(shownHits(hits), err), told(shownHits(w.plain.tables[table].hits(index, r)), api.OK))
	stamp := uint64(w.below(int(w.db.Frontier()) + 2))
	rows, err := w.db.At(table, stamp)
	want, wantErr := w.plain.at(table, stamp)
	w.same(told("At ", table, stamp), told(shownRows(rows), err), told(shownRows(want), wantErr))
}

func (w *world) step() {
	w.t.Helper()
	switch w.below(20) {
	case 0, 1, 2:
		w.begins()
	case 3, 4, 5:
		w.reads()
	case 6, 7, 8, 9, 10, 11, 12:
		w.writes()
	case 13, 14, 15:
		w.savepoints()
	case 16, 17, 18:
		w.ends()
	case 19:
		w.looks()
	}
}

// agree is Tx13: a scan of any index tells the rows that one of the table's key tells.
func (w *world) agree() {
	w.t.Helper()
	for _, x := range w.db.Active() {
		for n, tab := range w.db.Tables() {
			if info, _ := w.db.Info(x); info.Level == serial {
				continue // it would note all keys
			}
			first := ""
			for index := -1; index < len(tab.Indexes); index++ {
				l, err := w.db.Scan(x, n, by(index))
				wants(w.t, "Scan", err, api.OK)
				var rows []string
				for _, s := range l {
					rows = append(rows, shownRow(s.Row))
				}
				rows = sorted(rows)
				if index == -1 {
					first = fmt.Sprint(rows)
				}
				wants(w.t, "the rows by an index", fmt.Sprint(rows), first)
			}
		}
	}
}

// Tx1 to Tx7, Tx13: long runs, in which all that is told is held against the chapter's words.
func TestRuns(t *testing.T) {
	for seed := range 60 {
		w := newWorld(t, seed)
		for range 250 {
			w.step()
			w.agree()
			wants(t, "the state", state(t, w.db), w.plain.state())
		}
	}
}
