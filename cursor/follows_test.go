package cursor_test

import (
	"slices"
	"testing"

	"vellum/api"
	"vellum/code"
	"vellum/cursor"
	"vellum/pred"
)

// count is how often something was met: a test that meets nothing shows nothing.
type count map[string]int

func (c count) atLeast(t *testing.T, least int, of ...string) {
	t.Helper()
	for _, what := range of {
		if c[what] < least {
			t.Errorf("%s: %d times only", what, c[what])
		}
	}
}

// met counts what kind of a scan it was.
func (c count) met(l []api.Seen, q api.Scan, through api.Range, err api.Errno) {
	switch {
	case err != api.OK:
		c["refused"]++
	case through == (api.Range{}):
		c["nothing gone through"]++
	case len(l) >= q.Most:
		c["all that may be told"]++
	case len(l) == 0:
		c["no rows"]++
	default:
		c["no entry any more"]++
	}
	if len(l) > 1 {
		c["rows"]++
	}
	if q.Back {
		c["back"]++
	}
}

func (w *world) plainly(i int, v api.View, q api.Scan) *plain {
	return &plain{table: w.table, n: i - 1, store: w.store, index: w.indexes[i], view: v, scan: q}
}

// Cu1 to Cu3: All tells what the words say, whatever is there.
func TestRunsOfAll(t *testing.T) {
	met := count{}
	for seed := range 60 {
		w := newWorld(t, uint64(seed))
		for range 120 {
			w.step()
			for range 4 {
				i := w.chance.below(len(w.indexes))
				v, q := w.view(), w.scan(i)
				want, wantThrough, wantErr := w.plainly(i, v, q).all()
				l, through, err := cursor.All(w.table, w.store, w.indexes[i], v, q)
				if shown(l...) != shown(want...) || through != wantThrough || err != wantErr {
					t.Fatalf("All of %d by %v of %+v: %s, %v, %d, want %s, %v, %d", i-1, v, q, shown(l...), through, err, shown(want...), wantThrough, wantErr)
				}
				met.met(l, q, through, err)
			}
		}
	}
	met.atLeast(t, 500, "refused", "nothing gone through", "all that may be told", "no rows", "no entry any more", "rows", "back")
}

// going is a cursor that is under way, and a plain one beside it.
type going struct {
	cursor *cursor.Cursor
	plain  *plain
}

func (w *world) going() going {
	i := w.chance.below(len(w.indexes))
	v, q := w.view(), w.scan(i)
	return going{opened(w.t, w.table, w.store, w.indexes[i], v, q), w.plainly(i, v, q)}
}

// step holds one step of both against each other.
func (g going) step(t *testing.T, met count) {
	t.Helper()
	r, there, err := g.cursor.Next()
	want, wantThere, wantErr := g.plain.next()
	if shown(r) != shown(want) || there != wantThere || err != wantErr {
		t.Fatalf("Next by %v of %+v: %s, %v, %d, want %s, %v, %d", g.plain.view, g.plain.scan, shown(r), there, err, shown(want), wantThere, wantErr)
	}
	wants(t, "Through", g.cursor.Through(), g.plain.through())
	switch {
	case err != api.OK:
		met["refused"]++
	case there:
		met["told"]++
	case g.plain.lacking:
		met["no entry any more"]++
	default:
		met["told all that may be told"]++
	}
}

// Cu1, Cu2: cursors tell what the words say, also where rows and entries come, change and go between their steps.
func TestRunsOfNext(t *testing.T) {
	met := count{}
	for seed := range 60 {
		w := newWorld(t, uint64(1000+seed))
		for range 20 {
			w.step()
		}
		var l []going
		for range 200 {
			w.step()
			if len(l) < 5 {
				g := w.going()
				wants(t, "Through at the beginning", g.cursor.Through(), api.Range{})
				l = append(l, g)
			}
			at := w.chance.below(len(l))
			l[at].step(t, met)
			if l[at].plain.ended && w.chance.below(3) == 0 {
				l = slices.Delete(l, at, at+1)
			}
		}
	}
	met.atLeast(t, 100, "refused", "told", "no entry any more", "told all that may be told")
}

// takenOf is the rows that a condition takes; false, if it is refused for one.
func takenOf(tab api.Table, e api.Expr, l []api.Seen) ([]api.Seen, bool) {
	var taken []api.Seen
	for _, r := range l {
		takes, err := true, api.OK
		if e.Kind != 0 {
			takes, err = pred.Takes(tab, e, r.Row)
		}
		if err != api.OK {
			return nil, false
		}
		if takes {
			taken = append(taken, r)
		}
	}
	return taken, true
}

// Cu5: All tells what Look sees and Where takes, the first Most of it; back is the other way round.
func TestAllIsLook(t *testing.T) {
	met := count{}
	for seed := range 60 {
		w := newWorld(t, uint64(2000+seed))
		for range 100 {
			w.step()
			i := w.chance.below(len(w.indexes))
			v, q := w.view(), w.scan(i)
			x := w.indexes[i]
			taken, ok := takenOf(w.table, q.Where, x.Look(w.store, v, q.Range, q.Back, many))
			if !ok {
				continue
			}
			l, _, err := cursor.All(w.table, w.store, x, v, q)
			want := taken[:min(max(q.Most, 0), len(taken))]
			if shown(l...) != shown(want...) || err != api.OK {
				t.Fatalf("All: %s, %d, want %s", shown(l...), err, shown(want...))
			}
			q.Most, q.Back = many, !q.Back
			l, _, err = cursor.All(w.table, w.store, x, v, q)
			slices.Reverse(l)
			if shown(l...) != shown(taken...) || err != api.OK {
				t.Fatalf("All the other way round: %s, %d, want %s", shown(l...), err, shown(taken...))
			}
			met.met(l, q, api.Range{Open: true}, err)
		}
	}
	met.atLeast(t, 500, "rows", "back")
}

// Cu7: one by one there is told what All tells, and the range is the same.
func TestNextIsAll(t *testing.T) {
	for seed := range 40 {
		w := newWorld(t, uint64(3000+seed))
		for range 100 {
			w.step()
			i := w.chance.below(len(w.indexes))
			v, q := w.view(), w.scan(i)
			want, wantThrough, wantErr := cursor.All(w.table, w.store, w.indexes[i], v, q)
			c := opened(t, w.table, w.store, w.indexes[i], v, q)
			l, err := told(c)
			wants(t, "what is refused", err, wantErr)
			if err == api.OK {
				wants(t, "the rows", shown(l...), shown(want...))
				wants(t, "Through", c.Through(), wantThrough)
			}
		}
	}
}

// told is what a cursor tells, till it tells none.
func told(c *cursor.Cursor) ([]api.Seen, api.Errno) {
	var l []api.Seen
	for {
		r, there, err := c.Next()
		if !there {
			return l, err
		}
		l = append(l, r)
	}
}

// writeOutside writes a row by a transaction, if its keys, ahead and behind, are not in a range.
func (w *world) writeOutside(i int, v api.View, r api.Range) bool {
	slot := w.chance.below(worldSlots)
	write := api.Write{Gone: w.chance.below(3) == 0}
	if was, there := w.store.Read(slot, v.Txn, v.Stamp); there && code.Has(r, keyIn(w.table, i-1, was)) {
		return false
	}
	if !write.Gone {
		write.Row = w.row(slot)
		if code.Has(r, keyIn(w.table, i-1, write.Row)) {
			return false
		}
	}
	if w.store.Write(slot, v.Txn, write, v.Stamp) != api.OK {
		return false
	}
	if !write.Gone {
		w.put(write.Row, slot)
	}
	return true
}

// Cu6: whatever the one who looks writes outside of what was gone through, it is told the same again; also what is refused.
func TestGoneThrough(t *testing.T) {
	met := count{}
	for seed := range 80 {
		w := newWorld(t, uint64(4000+seed))
		for range 80 {
			w.step()
			i := w.chance.below(len(w.indexes))
			v, q := api.View{Txn: w.txn(), Stamp: w.stamp}, w.scan(i)
			c := opened(t, w.table, w.store, w.indexes[i], v, q)
			l, err := told(c)
			through := c.Through()
			for range 6 {
				if w.writeOutside(i, v, through) {
					met["written"]++
				}
			}
			again := opened(t, w.table, w.store, w.indexes[i], v, q)
			same, sameErr := told(again)
			if shown(l...) != shown(same...) || err != sameErr || again.Through() != through {
				t.Fatalf("behind writes outside of %v: %s, %d, %v, ahead of them: %s, %d", through, shown(same...), sameErr, again.Through(), shown(l...), err)
			}
			if err == api.OK {
				rows, r, _ := cursor.All(w.table, w.store, w.indexes[i], v, q)
				if shown(rows...) != shown(l...) || r != through {
					t.Fatalf("All behind writes outside of %v: %s, %v, want %s", through, shown(rows...), r, shown(l...))
				}
			}
			met.met(l, q, through, err)
		}
	}
	met.atLeast(t, 150, "written", "refused", "nothing gone through", "all that may be told", "no entry any more", "rows", "back")
}
