package txn_test

import (
	"fmt"
	"maps"
	"testing"

	"vellum/api"
)

func newRun(t *testing.T, seed int, levels ...int) *run {
	t.Helper()
	w := newTeller(t, seed, 5)
	return &run{teller: w, d: madeOf(t, w.tabs...), levels: levels, most: 6, saves: true}
}

// Tx9: what one of the levels snapshot and serial sees of rows that it has not written is At of its snapshot, from its begin to its end.
func TestSnapshotsAreStatesThatWere(t *testing.T) {
	for seed := range 25 {
		r := newRun(t, seed, committed, snapshot, snapshot, serial)
		r.between = func() {
			for _, s := range r.active {
				if s.level == committed {
					continue
				}
				want, mine := tableOf(t, r.d, s.begun), left(t, r.d, s.number)
				for n := range r.tabs {
					for k := range int64(r.keys) {
						name := told(n, "/", k)
						if _, wrote := mine[name]; wrote {
							continue
						}
						row, there, err := r.d.Get(s.number, n, key(k))
						if err != api.OK || there != (want[name] != "") || shownRow(row) != want[name] {
							t.Fatalf("seed %d: %d sees of %s %s, error %d, want %q", seed, s.number, name, shownRow(row), err, want[name])
						}
					}
				}
			}
		}
		r.goesOn(200)
	}
}

// Tx10, P2: serializable ones are as if they had run one behind the other, whole, in the order of their stamps, among the commits of all others.
func TestSerializable(t *testing.T) {
	wrote, read, refused := 0, 0, 0
	for _, levels := range [][]int{{serial}, {committed, snapshot, serial, serial}} {
		for seed := range 120 {
			r := newRun(t, seed, levels...)
			r.goesOn(250)
			for _, s := range r.ended {
				switch {
				case s.level == serial && s.err == api.OK:
					s.replays(t, r.d)
					if s.wrote {
						wrote++
					} else {
						read++
					}
				case s.err == api.ErrSerial:
					refused++
				}
			}
		}
	}
	if wrote < 300 || read < 100 || refused < 300 {
		t.Fatalf("only %d wrote, %d read, and %d were refused", wrote, read, refused)
	}
}

// Tx11: of two, snapshot or serial, that committed and wrote one row, the later one began behind the other one's commit.
func TestNoLostUpdate(t *testing.T) {
	pairs := 0
	for seed := range 150 {
		r := newRun(t, seed, committed, snapshot, serial)
		r.goesOn(300)
		by := map[uint64]*story{}
		for _, s := range r.ended {
			if s.wrote && s.err == api.OK {
				by[s.stamp] = s
			}
		}
		for n := range r.tabs {
			held, err := r.d.Latest(n, -1, all())
			wants(t, "Latest", err, api.OK)
			for _, h := range held {
				for i, later := range h.Versions {
					for _, earlier := range h.Versions[i+1:] {
						a, b := by[earlier.Stamp], by[later.Stamp]
						if a.level == committed || b.level == committed {
							continue
						}
						pairs++
						if b.begun < a.stamp {
							t.Fatalf("seed %d: %d, which began at %d, wrote over what was committed at %d", seed, b.number, b.begun, a.stamp)
						}
					}
				}
			}
		}
	}
	if pairs < 300 {
		t.Fatalf("only %d pairs", pairs)
	}
}

// Tx12: two databases that are told the same; one of them is pruned now and then, as far as may be: all that is told stays the same, but of slots.
func TestNothingReadGoes(t *testing.T) {
	went := api.Pruned{}
	for seed := range 60 {
		r, pruned := newRun(t, seed, committed, snapshot, serial), newRun(t, seed, committed, snapshot, serial)
		for range 300 {
			r.step()
			pruned.step()
			if r.below(6) != pruned.below(6) {
				t.Fatalf("seed %d: they have gone apart", seed)
			}
			if r.below(8)+pruned.below(8) == 0 {
				was := visible(t, pruned)
				p, err := pruned.d.Prune(1 << 62)
				wants(t, "Prune", err, api.OK)
				wants(t, "what is told behind it", visible(t, pruned), was)
				wants(t, "the floor", pruned.d.Floor(), pruned.d.Horizon())
				went.Versions, went.Entries, went.Rows = went.Versions+p.Versions, went.Entries+p.Entries, went.Rows+p.Rows
			}
			for stamp := pruned.d.Floor(); stamp <= r.d.Frontier(); stamp++ {
				wants(t, "what was there", fmt.Sprint(tableOf(t, pruned.d, stamp)), fmt.Sprint(tableOf(t, r.d, stamp)))
			}
		}
		wants(t, "what was told", storiesOf(pruned), storiesOf(r))
	}
	if went.Versions < 100 || went.Entries < 100 || went.Rows < 20 {
		t.Fatalf("only %+v went", went)
	}
}

// visible is what all active ones see, with all indexes; those of LevelSerial would note it, and see as those of LevelSnapshot do.
func visible(t *testing.T, r *run) string {
	t.Helper()
	text := fmt.Sprint(r.d.Frontier(), r.d.Active())
	for _, s := range r.active {
		if s.level != serial {
			text += seenBy(t, r.d, s.number)
		}
		info, _ := r.d.Info(s.number)
		f, _ := r.d.Foot(s.number)
		text += told(info, shownFoot(f))
	}
	for stamp := r.d.Horizon(); stamp <= r.d.Frontier(); stamp++ {
		text += fmt.Sprint(tableOf(t, r.d, stamp))
	}
	return text
}

func storiesOf(r *run) string {
	text := ""
	for _, s := range r.ended {
		text += fmt.Sprintf("%+v\n", *s)
	}
	return text
}

// Tx13: a scan of any index of all keys tells the rows that one of the table's key tells; also beside Prune.
func TestIndexesAndRowsAgree(t *testing.T) {
	for seed := range 30 {
		w := newWorld(t, 1000+seed)
		for range 300 {
			w.step()
			w.agree()
		}
	}
}

// Tx14: what is committed is seen whole at its stamp, and nothing else is; what is aborted, or refused, changes no state.
func TestAllOrNothing(t *testing.T) {
	for seed := range 60 {
		r := newRun(t, seed, committed, snapshot, serial)
		r.ending = func(s *story, abort bool) func() {
			mine, was, frontier := left(t, r.d, s.number), tableOf(t, r.d, r.d.Frontier()), r.d.Frontier()
			return func() {
				for k, row := range mine {
					if row == "gone" {
						delete(was, k)
					} else {
						was[k] = row
					}
				}
				if s.err == api.OK && s.wrote {
					wants(t, "the stamp", s.stamp, frontier+1)
					wants(t, "what is there at the stamp", maps.Equal(tableOf(t, r.d, s.stamp), was), true)
					return
				}
				wants(t, "the frontier", r.d.Frontier(), frontier)
			}
		}
		ahead := []string{}
		r.between = func() {
			// Each state is as it was when its commit was done, whatever is written and committed behind it.
			for stamp := range r.d.Frontier() + 1 {
				text := fmt.Sprint(tableOf(t, r.d, stamp))
				if int(stamp) == len(ahead) {
					ahead = append(ahead, text)
				}
				wants(t, "what was there", text, ahead[stamp])
			}
		}
		r.goesOn(150)
	}
}

// Tx14: what one wrote that is aborted, or taken back, or not committed yet, nobody else is told.
func TestNobodyIsToldWhatIsNotCommitted(t *testing.T) {
	for seed := range 60 {
		r := newRun(t, seed, committed, snapshot, serial)
		// Each row has a number of its own in b: whose it is, and the stamps at which those that are left were committed.
		whose, stamps := map[int64]int{}, map[int64]uint64{}
		r.ending = func(s *story, abort bool) func() {
			var rows []int64
			for n := range r.tabs {
				held, _ := r.d.Latest(n, -1, all())
				for _, h := range held {
					if last := len(h.Intent.Writes) - 1; h.Intent.Txn == s.number && !h.Intent.Writes[last].Gone {
						rows = append(rows, h.Intent.Writes[last].Row[1].N)
					}
				}
			}
			return func() {
				for _, b := range rows {
					if s.err == api.OK {
						stamps[b] = s.stamp
					}
				}
			}
		}
		r.between = func() {
			for _, s := range r.active {
				for _, c := range s.calls {
					if c.do == doInsert || c.do == doUpdate {
						whose[c.row[1].N] = s.number
					}
				}
			}
			for _, s := range r.active {
				info, _ := r.d.Info(s.number)
				for n := range r.tabs {
					for k := range int64(r.keys) {
						row, there, _ := r.d.Get(s.number, n, key(k))
						if !there || whose[row[1].N] == s.number {
							continue
						}
						stamp, is := stamps[row[1].N]
						if !is || stamp > info.Snapshot {
							t.Fatalf("seed %d: %d, at %d, is told %s, whose stamp is %d", seed, s.number, info.Snapshot, shownRow(row), stamp)
						}
					}
				}
			}
		}
		r.goesOn(150)
	}
}
