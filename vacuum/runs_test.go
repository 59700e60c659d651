package vacuum_test

import (
	"fmt"
	"math"
	"slices"
	"testing"

	"vellum/api"
	"vellum/code"
	"vellum/lit"
	"vellum/txn"
	"vellum/vacuum"
)

// worldTexts are tables with no index, with some, over one column and over more, those of the key, too.
func worldTexts() []string {
	return []string{
		"create table t (a int not null, b int, primary key (a), index i (b))",
		"create table u (a int not null, primary key (a))",
		"create table v (a int not null, x float, y text, primary key (a), index m (x, y, a), unique index n (y), index o (a))",
		"create table w (d text not null, f float not null, g int, primary key (f, d), index i (g))",
	}
}

// world is two databases, of which one is asked by this package, and of the other one the same is done by the chapter's words.
type world struct {
	t      *testing.T
	chance *chance
	d      *txn.DB
	twin   *txn.DB
	// took is what Runs and Clears took, and cleared how many were aborted.
	took    api.Pruned
	cleared int
}

func newWorld(t *testing.T, seed int) *world {
	t.Helper()
	return &world{t: t, chance: &chance{uint64(seed)}, d: made(t, worldTexts()...), twin: made(t, worldTexts()...)}
}

func (w *world) below(n int) int { return w.chance.below(n) }

func (w *world) int() any { return one[any](w.chance, nil, 0, 1, 2) }

func (w *world) float() any {
	return one[any](w.chance, 0.0, lit.Bits(1<<63), -1.5, math.Inf(1), lit.Bits(0x7FF8000000000007))
}

func (w *world) row(table int) []api.Value {
	switch table {
	case 0:
		return row(w.below(5), w.int())
	case 1:
		return row(w.below(5))
	case 2:
		return row(w.below(5), one(w.chance, nil, w.float()), one[any](w.chance, nil, "", "a"))
	}
	return row(one[any](w.chance, "", "a"), w.float(), w.int())
}

// key is mostly that of a row that is, or was, there.
func (w *world) key(table int) []api.Value {
	if hits, _ := w.d.Entries(table, -1, all()); len(hits) > 0 && w.below(6) > 0 {
		l, _ := code.Decode(one(w.chance, hits...).Key)
		return l
	}
	if table == 3 {
		return row(w.float(), "a")
	}
	return row(w.below(5))
}

// txn is mostly one that is active.
func (w *world) txn() int {
	l := w.d.Active()
	if len(l) == 0 || w.below(80) == 0 {
		return w.below(5) - 2
	}
	return l[w.below(len(l))]
}

// both lets the two databases do the same: they tell the same.
func (w *world) both(what string, do func(d *txn.DB) string) {
	w.t.Helper()
	got, want := do(w.d), do(w.twin)
	wants(w.t, what, got, want)
}

func (w *world) begins() {
	w.t.Helper()
	level, at := 1+w.below(3), w.below(5) == 0
	stamp := w.d.Floor() + uint64(w.below(int(w.d.Frontier()-w.d.Floor())+2))
	w.both("a begin", func(d *txn.DB) string {
		switch {
		case len(d.Active()) > 5:
			return ""
		case at:
			return fmt.Sprint(d.BeginAt(stamp))
		}
		return fmt.Sprint(d.Begin(level))
	})
}

func (w *world) writes() {
	w.t.Helper()
	kind, x, table := w.below(5), w.txn(), w.below(4)
	k, l := w.key(table), w.row(table)
	w.both("a write", func(d *txn.DB) string {
		switch kind {
		case 0, 1:
			return fmt.Sprint(d.Insert(x, table, l))
		case 2, 3:
			return fmt.Sprint(d.Update(x, table, k, l))
		}
		return fmt.Sprint(d.Delete(x, table, k))
	})
}

func (w *world) savepoints() {
	w.t.Helper()
	x, what, save := w.txn(), w.below(4), 1+w.below(3)
	w.both("a savepoint", func(d *txn.DB) string {
		switch what {
		case 0, 1:
			return fmt.Sprint(d.Save(x))
		case 2:
			return fmt.Sprint(d.Back(x, save))
		}
		return fmt.Sprint(d.Release(x, save))
	})
}

func (w *world) ends() {
	w.t.Helper()
	x, abort := w.txn(), w.below(4) == 0
	w.both("an end", func(d *txn.DB) string {
		if abort {
			return fmt.Sprint(d.Abort(x))
		}
		return fmt.Sprint(d.Commit(x))
	})
}

// prunes takes less than might be taken.
func (w *world) prunes() {
	w.t.Helper()
	less := uint64(1 + w.below(4))
	w.both("Prune", func(d *txn.DB) string {
		return fmt.Sprint(d.Prune(max(less, d.Frontier()) - less))
	})
}

// looks asks what changes nothing.
func (w *world) looks() {
	w.t.Helper()
	l, err := vacuum.Look(w.d)
	wants(w.t, "Look", fmt.Sprintf("%+v %d", l, err), fmt.Sprintf("%+v %d", plainLook(w.t, w.twin), api.OK))
	base, thousandths := w.below(6), w.below(3000)
	due, err := vacuum.Due(l, base, thousandths)
	wants(w.t, "Due", fmt.Sprint(due, err), fmt.Sprint(plainDue(l, base, thousandths), api.OK))
	who, err := vacuum.Holders(w.d)
	wants(w.t, "Holders", fmt.Sprint(who, err), fmt.Sprint(plainHolders(w.t, w.twin), api.OK))
	age := uint64(w.below(6))
	who, err = vacuum.Old(w.d, age)
	wants(w.t, "Old", fmt.Sprint(who, err), fmt.Sprint(plainOld(w.t, w.twin, age), api.OK))
}

// counts is how much each table has: versions, rows, entries.
func (w *world) counts() []api.Waste {
	w.t.Helper()
	var l []api.Waste
	for n, tab := range w.d.Tables() {
		var c api.Waste
		for _, h := range heldOf(w.t, w.d, n) {
			c.Versions += len(h.Versions)
			c.Rows++
		}
		for index := -1; index < len(tab.Indexes); index++ {
			hits, _ := w.d.Entries(n, index, all())
			c.Entries += len(hits)
		}
		l = append(l, c)
	}
	return l
}

// tookAs holds what a Run took against what Look had told, table by table, and in all.
func (w *world) tookAs(looked []api.Waste, had []api.Waste, p api.Pruned) {
	w.t.Helper()
	var sum api.Pruned
	for n, has := range w.counts() {
		went := api.Pruned{Versions: had[n].Versions - has.Versions, Rows: had[n].Rows - has.Rows, Entries: had[n].Entries - has.Entries}
		wants(w.t, fmt.Sprint("what went of table ", n), went, api.Pruned{Versions: looked[n].Dead, Rows: looked[n].Rows, Entries: looked[n].Entries})
		sum = api.Pruned{Versions: sum.Versions + went.Versions, Rows: sum.Rows + went.Rows, Entries: sum.Entries + went.Entries}
	}
	wants(w.t, "what went", p, sum)
	behind, err := vacuum.Look(w.d)
	wants(w.t, "Look", err, api.OK)
	for n, l := range behind {
		wants(w.t, fmt.Sprint("what would go of table ", n), l, api.Waste{Live: looked[n].Live, Versions: looked[n].Versions - looked[n].Dead})
	}
	w.took = api.Pruned{Versions: w.took.Versions + sum.Versions, Rows: w.took.Rows + sum.Rows, Entries: w.took.Entries + sum.Entries}
}

// runs is Vc4 and Vc5.
func (w *world) runs() {
	w.t.Helper()
	looked, err := vacuum.Look(w.d)
	wants(w.t, "Look", err, api.OK)
	had, was := w.counts(), told(w.t, w.d)+scans(w.t, w.d)
	p, err := vacuum.Run(w.d)
	wants(w.t, "Run", fmt.Sprint(p, err), fmt.Sprint(plainRun(w.t, w.twin), api.OK))
	w.tookAs(looked, had, p)
	wants(w.t, "what is told", told(w.t, w.d)+scans(w.t, w.d), was)
}

// clears is Vc4 and Vc7.
func (w *world) clears() {
	w.t.Helper()
	age := uint64(w.below(7))
	l, p, err := vacuum.Clear(w.d, age)
	if age == 0 {
		wants(w.t, "Clear of 0", fmt.Sprint(len(l), p, err), fmt.Sprint(0, api.Pruned{}, api.ErrArg))
		return
	}
	who, took := plainClear(w.t, w.twin, age)
	wants(w.t, "Clear", fmt.Sprint(l, p, err), fmt.Sprint(who, took, api.OK))
	left, err := vacuum.Old(w.d, age)
	wants(w.t, "how many are as old", fmt.Sprint(len(left), err), "0 0")
	w.cleared += len(l)
}

func (w *world) step() {
	w.t.Helper()
	if len(w.d.Active()) < 2 {
		w.begins()
		return
	}
	switch w.below(24) {
	case 0, 1:
		w.begins()
	case 2:
		w.savepoints()
	case 3, 4, 5, 6:
		w.ends()
	case 7:
		w.prunes()
	case 8, 9:
		w.looks()
	case 10:
		w.runs()
	case 11:
		if w.below(3) == 0 {
			w.clears()
		}
	default:
		w.writes()
	}
}

// Vc1 to Vc7: long runs, in which all that is told is held against the chapter's words, what Run takes against what Look told, and all that is there against a database of which the same was done by layer 20.
func TestRuns(t *testing.T) {
	var took api.Pruned
	cleared, held := 0, 0
	for seed := range 120 {
		w := newWorld(t, seed)
		for n := range 400 {
			w.step()
			if n%4 == 0 {
				wants(t, "the state", state(t, w.d), state(t, w.twin))
				held += len(plainHolders(t, w.d))
			}
		}
		took = api.Pruned{Versions: took.Versions + w.took.Versions, Rows: took.Rows + w.took.Rows, Entries: took.Entries + w.took.Entries}
		cleared += w.cleared
		w.ended()
	}
	if took.Versions < 1500 || took.Rows < 300 || took.Entries < 1000 || cleared < 80 || held < 4000 {
		t.Errorf("only %+v was taken, %d cleared, and the horizon held %d times", took, cleared, held)
	}
}

// ended is Vc6.
func (w *world) ended() {
	w.t.Helper()
	for _, x := range w.d.Active() {
		aborts(w.t, w.d, x)
	}
	_, err := vacuum.Run(w.d)
	wants(w.t, "Run", err, api.OK)
	for n, c := range w.counts() {
		rows := len(rowsAt(w.t, w.d, n, w.d.Frontier()))
		wants(w.t, "what is there", c, api.Waste{Versions: rows, Rows: rows, Entries: rows * (1 + len(w.d.Tables()[n].Indexes))})
		for _, h := range heldOf(w.t, w.d, n) {
			if h.Versions[0].Gone || h.Intent.Txn != 0 {
				w.t.Fatalf("slot %d: %+v", h.Slot, h)
			}
		}
	}
	if l, _ := vacuum.Holders(w.d); len(l) > 0 || !slices.Equal(w.d.Active(), nil) {
		w.t.Fatalf("%v hold the horizon of %v", l, w.d.Active())
	}
}
