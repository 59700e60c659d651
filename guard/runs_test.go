package guard_test

import (
	"fmt"
	"math"
	"testing"

	"vellum/api"
	"vellum/code"
	"vellum/guard"
	"vellum/lit"
	"vellum/txn"
)

// worldTexts are tables with unique indexes over one column and over some, null or not; that refer to themselves, to one another in a round, by keys of one column and of two; found by the key, by an index in another order, and by none.
func worldTexts() []string {
	return []string{
		"create table t (a int not null, b int, c int, e int, primary key (a), unique index i (b), index j (c), unique index k (c, e), foreign key (c) references t)",
		"create table u (a int not null, b int, c int, f float, primary key (a), unique index i (f), foreign key (b) references t, foreign key (c) references u)",
		"create table w (d text not null, f float not null, g int, primary key (d, f), index i (g), foreign key (g) references t)",
		"create table v (a int not null, x float, y text, primary key (a), index m (x, y, a), unique index n (y, x), foreign key (y, x) references w)",
		"create table p (x float not null, y text not null, z float, primary key (x, y), foreign key (y, x) references w, foreign key (y, z) references w)",
	}
}

// world is a guard beside the chapter's words, of which the same is asked.
type world struct {
	t      *testing.T
	chance *chance
	g      *guard.Guard
	plain  *plainGuard
	// bare is how many of a hundred writes go by no guard.
	bare int
	// met counts what writes were told.
	met map[told]int
}

func newWorld(t *testing.T, seed, bare int) *world {
	t.Helper()
	w := &world{
		t:      t,
		chance: &chance{uint64(seed)},
		g:      made(t, worldTexts()...),
		plain:  newPlain(tables(t, worldTexts()...)),
		bare:   bare,
		met:    map[told]int{},
	}
	w.both("the first rows", func(d *txn.DB) string {
		x, err := d.Begin(committed)
		for _, text := range []string{"", "a\x00"} {
			for _, f := range []float64{0, -1.5, math.NaN()} {
				err = max(err, d.Insert(x, 2, row(text, f, nil)))
			}
		}
		_, end := d.Commit(x)
		return fmt.Sprint(err, end)
	})
	return w
}

func (w *world) below(n int) int { return w.chance.below(n) }

func (w *world) int() any {
	if w.below(3) == 0 {
		return nil
	}
	return w.below(4)
}

func (w *world) float() any {
	return one[any](w.chance, 0.0, lit.Bits(1<<63), -1.5, lit.Bits(0x7FF8000000000007), lit.Bits(0x7FF8000000000000))
}

func (w *world) text() any { return one[any](w.chance, "", "a\x00") }

func (w *world) orNull(v any) any {
	if w.below(3) == 0 {
		return nil
	}
	return v
}

// key is mostly that of a row that is, or was, there; else one of few; seldom one that may not be.
func (w *world) key(table int) []api.Value {
	if w.below(50) == 0 {
		return one(w.chance, nil, row(nil), row("\xff", 1.0), row(1.0))
	}
	if hits, _ := w.g.DB().Entries(table, -1, all()); len(hits) > 0 && w.below(6) > 0 {
		l, _ := code.Decode(one(w.chance, hits...).Key)
		return l
	}
	switch table {
	case 2:
		return row(w.text(), w.float())
	case 4:
		return row(w.float(), w.text())
	}
	return row(w.below(6))
}

// row is one of few; seldom one that may not be.
func (w *world) row(table int) []api.Value {
	if w.below(50) == 0 {
		return one(w.chance, nil, row(nil, nil, nil), row(1), row(1, "x", 2))
	}
	switch table {
	case 0:
		return row(w.below(6), w.orNull(w.below(9)), w.int(), w.int())
	case 1:
		return row(w.below(6), w.int(), w.int(), w.orNull(w.float()))
	case 2:
		return row(w.text(), w.float(), w.int())
	case 3:
		return row(w.below(6), w.orNull(w.float()), w.orNull(w.text()))
	}
	return row(w.float(), w.text(), w.orNull(w.float()))
}

// txn is mostly one that is active.
func (w *world) txn() int {
	l := w.g.DB().Active()
	if len(l) == 0 || w.below(80) == 0 {
		return w.below(5) - 2
	}
	return l[w.below(len(l))]
}

// both lets the two databases do the same: they tell the same.
func (w *world) both(what string, do func(d *txn.DB) string) {
	w.t.Helper()
	got, want := do(w.g.DB()), do(w.plain.d)
	wants(w.t, what, got, want)
}

func (w *world) writes() {
	w.t.Helper()
	kind, x, table := one(w.chance, 0, 0, 1, 1, 2), w.txn(), w.below(5)
	k, l := w.key(table), w.row(table)
	if w.below(60) == 0 {
		table = one(w.chance, -1, 5)
	}
	what := fmt.Sprint("a write of the kind ", kind, " by ", x, " of ", table, ": ", shownRow(k), " and ", shownRow(l))
	if w.below(100) < w.bare {
		w.both(what, func(d *txn.DB) string { return fmt.Sprint(layer20(d, kind, x, table, k, l)) })
		return
	}
	got := guarded(w.g, kind, x, table, k, l)
	wants(w.t, what, got, w.plain.write(kind, x, table, k, l))
	w.met[got]++
}

func (w *world) begins() {
	w.t.Helper()
	if len(w.g.DB().Active()) > 5 {
		return
	}
	level, at := 1+w.below(3), w.below(40) == 0
	w.both("Begin", func(d *txn.DB) string {
		if at {
			return fmt.Sprint(d.BeginAt(d.Floor()))
		}
		return fmt.Sprint(d.Begin(level))
	})
}

func (w *world) savepoints() {
	w.t.Helper()
	x, what, save := w.txn(), w.below(4), 1+w.below(3)
	w.both("a savepoint", func(d *txn.DB) string {
		switch what {
		case 0, 1:
			return fmt.Sprint(d.Save(x))
		case 2:
			return fmt.Sprint(d.Back(x, save))
		}
		return fmt.Sprint(d.Release(x, save))
	})
}

func (w *world) ends() {
	w.t.Helper()
	x, what, less := w.txn(), w.below(6), uint64(w.below(3))
	w.both("an end", func(d *txn.DB) string {
		switch what {
		case 0:
			return fmt.Sprint(d.Abort(x))
		case 1:
			return fmt.Sprint(d.Prune(max(less, d.Frontier()) - less))
		}
		return fmt.Sprint(d.Commit(x))
	})
}

func (w *world) looks() {
	w.t.Helper()
	table, stamp := w.below(5), uint64(w.below(int(w.g.DB().Frontier())+2))
	if w.below(20) == 0 {
		table = one(w.chance, -1, 5)
	}
	got, err := w.g.Broken(table, stamp)
	want, wantErr := w.plain.broken(table, stamp)
	wants(w.t, fmt.Sprint("Broken of ", table, " at ", stamp), fmt.Sprint(got, err), fmt.Sprint(want, wantErr))
}

func (w *world) step() {
	w.t.Helper()
	if len(w.g.DB().Active()) < 2 {
		w.begins()
		return
	}
	switch w.below(20) {
	case 0, 1:
		w.begins()
	case 2:
		w.savepoints()
	case 3, 4:
		w.ends()
	case 5:
		w.looks()
	default:
		w.writes()
	}
}

// run lets many worlds go on, and counts what their writes were told.
func run(t *testing.T, seeds, steps, bare int, behind func(w *world)) map[told]int {
	t.Helper()
	all := map[told]int{}
	for seed := range seeds {
		w := newWorld(t, seed, bare)
		for n := range steps {
			w.step()
			if n%4 == 0 {
				wants(t, "the state", state(t, w.g.DB()), state(t, w.plain.d))
			}
		}
		behind(w)
		for what, n := range w.met {
			all[what] += n
		}
	}
	return all
}

// Gu1 to Gu4: long runs, in which all that is told, noted and written is held against the chapter's words; and nothing is ever broken.
func TestRuns(t *testing.T) {
	met := run(t, 160, 300, 0, func(w *world) { nothingBroken(t, w.g) })
	each := map[told]int{}
	for what, n := range met {
		what.b.Table, what.b.N = 0, 0
		each[what] += n
	}
	for _, what := range []told{
		unique(api.ErrUnique, 0, 0), unique(api.ErrBusy, 0, 0),
		out(api.ErrForeign, 0, 0), out(api.ErrBusy, 0, 0), out(api.ErrNewer, 0, 0),
		in(api.ErrForeign, 0, 0), in(api.ErrBusy, 0, 0),
	} {
		if each[what] < 50 {
			t.Errorf("%v was told %d times alone", what, each[what])
		}
	}
}

// Gu2, Gu3: the same where some write by no guard, so that much is broken.
func TestRunsBesideThoseThatAreNotGuarded(t *testing.T) {
	broken := 0
	run(t, 40, 250, 60, func(w *world) {
		for stamp := w.g.DB().Floor(); stamp <= w.g.DB().Frontier(); stamp++ {
			for table := range 5 {
				got, err := w.g.Broken(table, stamp)
				want, wantErr := w.plain.broken(table, stamp)
				wants(t, "Broken", fmt.Sprint(got, err), fmt.Sprint(want, wantErr))
				broken += len(got)
			}
		}
	})
	if broken < 300 {
		t.Errorf("only %d were broken", broken)
	}
}
