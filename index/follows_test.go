package index_test

import (
	"fmt"
	"slices"
	"strings"
	"testing"

	"vellum/api"
	"vellum/code"
	"vellum/index"
	"vellum/lit"
	"vellum/store"
)

// world is a store whose rows are written by some transactions, and all indexes of its table beside plain ones, into which is put what is written.
type world struct {
	t       *testing.T
	chance  chance
	table   api.Table
	store   *store.Store
	stamp   uint64
	indexes []*index.Index
	plains  []*plain
}

const (
	worldSlots = 5
	worldTxns  = 3
)

func newWorld(t *testing.T, seed uint64) *world {
	w := &world{t: t, chance: chance{seed}, table: wide(), store: newStore(t, worldSlots)}
	for n := -1; n < len(w.table.Indexes); n++ {
		w.indexes = append(w.indexes, newIndex(t, w.table, n))
		w.plains = append(w.plains, newPlain(w.table, n))
	}
	return w
}

// row is one of few, so that keys come again.
func (w *world) row() []api.Value {
	texts := []api.Value{lit.Null(), lit.Text(""), lit.Text("a"), lit.Text("a\x00b")}
	floats := []api.Value{lit.Null(), lit.Float(-1.5), lit.Float(0), lit.Float(2)}
	return []api.Value{lit.Int(int64(w.chance.below(2))), texts[w.chance.below(4)], floats[w.chance.below(4)], texts[1+w.chance.below(2)]}
}

func (w *world) txn() int { return 1 + w.chance.below(worldTxns) }

// fits tells whether no index refuses a row in a slot.
func (w *world) fits(row []api.Value, slot int) bool {
	return !slices.ContainsFunc(w.plains, func(p *plain) bool { return !p.fits(row, slot) })
}

func (w *world) put(row []api.Value, slot int) {
	w.t.Helper()
	for i, x := range w.indexes {
		put(w.t, x, row, slot)
		w.plains[i].put(row, slot)
	}
}

func (w *world) add() {
	row, slots := w.row(), w.store.Slots()
	slot := 0
	for slices.Contains(slots, slot) {
		slot++
	}
	if slot < worldSlots && w.fits(row, slot) {
		wants(w.t, "the slot", added(w.t, w.store, w.txn(), row), slot)
		w.put(row, slot)
	}
}

func (w *world) write() {
	slot, txn, write := w.chance.below(worldSlots), w.txn(), api.Write{Level: w.chance.below(3), Gone: w.chance.below(4) == 0}
	if !write.Gone {
		write.Row = w.row()
		if !w.fits(write.Row, slot) {
			return
		}
	}
	if w.store.Write(slot, txn, write, w.stamp) == api.OK && !write.Gone {
		w.put(write.Row, slot)
	}
}

// step is one of all things that may be done.
func (w *world) step() {
	switch w.chance.below(12) {
	case 0, 1:
		w.add()
	case 2, 3, 4, 5:
		w.write()
	case 6:
		w.store.Back(w.txn(), w.chance.below(3))
	case 7:
		w.store.Fold(w.txn(), 1+w.chance.below(2))
	case 8, 9:
		w.stamp++
		settled(w.t, w.store, w.txn(), w.stamp)
	case 10:
		w.store.Prune(uint64(w.chance.below(int(w.stamp) + 1)))
	case 11:
		w.sweep(w.chance.below(len(w.indexes)))
	}
}

// In5: what Look tells is the same ahead of Sweep and behind it. In6: if no row has an intent, there are the entries that Build makes then.
func (w *world) sweep(i int) {
	w.t.Helper()
	x, p := w.indexes[i], w.plains[i]
	was := w.seen(i)
	wants(w.t, "Sweep", x.Sweep(w.store), p.sweep(w.store))
	wants(w.t, "Look behind Sweep", w.seen(i), was)
	if slices.ContainsFunc(w.store.Slots(), func(slot int) bool { return w.store.Intent(slot).Txn != 0 }) {
		return
	}
	again := built(w.t, w.table, i-1, w.store)
	wants(w.t, "Find behind Sweep", shownHits(x.Find(all(), false, many)), shownHits(again.Find(all(), false, many)))
	wants(w.t, "Sweep again", x.Sweep(w.store), 0)
}

// views is all that tell something of their own.
func (w *world) views() []api.View {
	var l []api.View
	for txn := range worldTxns + 1 {
		for stamp := max(w.stamp, 3) - 3; stamp <= w.stamp+1; stamp++ {
			l = append(l, api.View{Txn: txn, Stamp: stamp})
		}
	}
	return l
}

// seen is what all views see of all keys.
func (w *world) seen(i int) string {
	var b strings.Builder
	for _, v := range w.views() {
		fmt.Fprintf(&b, "%v: %s\n", v, shownSeen(w.indexes[i].Look(w.store, v, all(), false, many)))
	}
	return b.String()
}

// agree is In5: by each view each index tells each row that the view reads, once, in the order of their keys.
func (w *world) agree() {
	w.t.Helper()
	for _, v := range w.views() {
		for i, x := range w.indexes {
			var want []api.Seen
			for slot := range worldSlots {
				if row, there := w.store.Read(slot, v.Txn, v.Stamp); there {
					key, _ := w.plains[i].key(row)
					want = append(want, api.Seen{Slot: slot, Key: key, Row: row})
				}
			}
			slices.SortFunc(want, func(a, b api.Seen) int { return strings.Compare(a.Key, b.Key) })
			wants(w.t, fmt.Sprintf("Look of %d by %v", i-1, v), shownSeen(x.Look(w.store, v, all(), false, many)), shownSeen(want))
		}
	}
}

// asks holds what an index tells of some range against the plain one.
func (w *world) asks() {
	w.t.Helper()
	i := w.chance.below(len(w.indexes))
	x, p := w.indexes[i], w.plains[i]
	keys := append(p.within(all(), false), "", "\x05a", "\xff")
	key := func() string { return keys[w.chance.below(len(keys))] }
	r := api.Range{Lo: key(), Hi: key(), Open: w.chance.below(3) == 0}
	if w.chance.below(4) == 0 {
		r = code.Point(key())
	}
	back, most := w.chance.below(2) == 0, w.chance.below(6)-1
	v := api.View{Txn: w.chance.below(worldTxns + 1), Stamp: uint64(w.chance.below(int(w.stamp) + 2))}
	wants(w.t, "Find", shownHits(x.Find(r, back, most)), shownHits(p.find(r, back, most)))
	wants(w.t, "Look", shownSeen(x.Look(w.store, v, r, back, most)), shownSeen(p.look(w.store, v, r, back, most)))
}

// rebuilt is In2: what Build makes of the rows as they are, or refuses.
func (w *world) rebuilt() {
	w.t.Helper()
	n := w.chance.below(len(w.indexes)) - 1
	p := newPlain(w.table, n)
	want := p.build(w.store)
	x, err := index.Build(w.table, n, w.store)
	wants(w.t, "Build", err, want)
	if err == api.OK {
		wants(w.t, "Find in what was built", shownHits(x.Find(all(), false, many)), p.shown())
	}
}

// In1 to In3, In5, In6: long runs, in which all that is told is held against the words.
func TestRuns(t *testing.T) {
	for seed := range 25 {
		w := newWorld(t, uint64(seed))
		for range 150 {
			w.step()
			w.agree()
			w.asks()
			w.rebuilt()
		}
		for i := range w.indexes {
			w.sweep(i)
		}
		for txn := 1; txn <= worldTxns; txn++ {
			w.store.Back(txn, 0)
		}
		for i := range w.indexes {
			w.sweep(i)
		}
	}
}

// In1 to In3: rows of one int in slots of all kinds, also where they are in the store's way: what is refused leaves all as it was.
func TestRunsOfAnyPuts(t *testing.T) {
	for seed := range 200 {
		c := chance{uint64(seed)}
		s := filled(t, pair(0, 0), pair(1, 1), pair(2, 0), pair(3, 1))
		x, p := newIndex(t, table(), 0), newPlain(table(), 0)
		for range 100 {
			row, slot := pair(int64(c.below(4)), int64(c.below(2))), c.below(6)-1
			switch c.below(8) {
			case 0:
				row = row[:1]
			case 1:
				wants(t, "Sweep", x.Sweep(s), p.sweep(s))
			}
			wants(t, "Put", x.Put(row, slot), p.put(row, slot))
			wants(t, "Find", shownHits(x.Find(all(), false, many)), p.shown())
			sees(t, x, s, api.View{Stamp: 1}, pairs(p.look(s, api.View{Stamp: 1}, all(), false, many)))
		}
	}
}
