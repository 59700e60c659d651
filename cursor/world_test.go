package cursor_test

import (
	"slices"
	"testing"

	"vellum/api"
	"vellum/index"
	"vellum/lit"
	"vellum/pred"
	"vellum/store"
)

// world is a store whose rows are written by some transactions, and the indexes of its table, into which is put what is written.
type world struct {
	t       *testing.T
	chance  chance
	table   api.Table
	store   *store.Store
	indexes []*index.Index
	stamp   uint64
}

const (
	worldSlots = 7
	worldTxns  = 3
)

// wide has a key of two columns, in another order than they stand, and two indexes.
func wide() api.Table {
	return api.Table{
		Name: "w",
		Columns: []api.Column{
			{Name: "a", Kind: api.KindInt},
			{Name: "b", Kind: api.KindInt, Null: true},
			{Name: "c", Kind: api.KindFloat, Null: true},
			{Name: "d", Kind: api.KindText},
		},
		Key:     []int{3, 0},
		Indexes: []api.Index{{Name: "i", Columns: []int{1}}, {Name: "j", Columns: []int{2, 1}}},
	}
}

func newWorld(t *testing.T, seed uint64) *world {
	w := &world{t: t, chance: chance{seed}, table: wide()}
	s, err := store.New(worldSlots)
	wants(t, "New of a store", err, api.OK)
	w.store = s
	for n := -1; n < len(w.table.Indexes); n++ {
		w.indexes = append(w.indexes, built(t, w.table, n, s))
	}
	return w
}

// row has a key that rows of other slots never have: so no entry is taken.
func (w *world) row(slot int) []api.Value {
	b := []api.Value{lit.Null(), lit.Int(0), lit.Int(1), lit.Int(5)}
	c := []api.Value{lit.Null(), lit.Float(-1.5), lit.Bits(1 << 63), lit.Float(2)}
	d := []api.Value{lit.Text(""), lit.Text("x\x00y")}
	return []api.Value{lit.Int(int64(slot)), b[w.chance.below(4)], c[w.chance.below(4)], d[w.chance.below(2)]}
}

func (w *world) txn() int { return 1 + w.chance.below(worldTxns) }

func (w *world) put(row []api.Value, slot int) {
	w.t.Helper()
	for _, x := range w.indexes {
		wants(w.t, "Put", x.Put(row, slot), api.OK)
	}
}

func (w *world) add() {
	slot, slots := 0, w.store.Slots()
	for slices.Contains(slots, slot) {
		slot++
	}
	if slot < worldSlots {
		row := w.row(slot)
		at, err := w.store.Add(w.txn(), api.Write{Row: row})
		if at != slot || err != api.OK {
			w.t.Fatalf("Add: %d, %d", at, err)
		}
		w.put(row, slot)
	}
}

func (w *world) write() {
	slot := w.chance.below(worldSlots)
	write := api.Write{Gone: w.chance.below(4) == 0}
	if !write.Gone {
		write.Row = w.row(slot)
	}
	if w.store.Write(slot, w.txn(), write, w.stamp) == api.OK && !write.Gone {
		w.put(write.Row, slot)
	}
}

// step is one of all things that may be done.
func (w *world) step() {
	switch w.chance.below(10) {
	case 0, 1, 2:
		w.add()
	case 3, 4, 5:
		w.write()
	case 6:
		w.store.Back(w.txn(), 0)
	case 7, 8:
		w.stamp++
		w.store.Settle(w.txn(), w.stamp)
	case 9:
		w.store.Prune(uint64(w.chance.below(int(w.stamp) + 1)))
		w.indexes[w.chance.below(len(w.indexes))].Sweep(w.store)
	}
}

func (w *world) view() api.View {
	stamp := w.stamp - min(w.stamp, uint64(w.chance.below(4))) + uint64(w.chance.below(2))
	return api.View{Txn: w.chance.below(worldTxns + 1), Stamp: stamp}
}

// key is one of an entry, or a beginning of one, or another one.
func (w *world) key(i int) string {
	hits := w.indexes[i].Find(all(), false, many)
	if len(hits) == 0 || w.chance.below(5) == 0 {
		return []string{"", "\x01", "\x03\x80", "\x05\x00", "\xff"}[w.chance.below(5)]
	}
	key := hits[w.chance.below(len(hits))].Key
	switch w.chance.below(4) {
	case 0:
		return key[:w.chance.below(len(key))]
	case 1:
		return key + "\x00"
	}
	return key
}

func (w *world) keys(i int) api.Range {
	r := api.Range{Lo: w.key(i), Hi: w.key(i), Open: w.chance.below(3) == 0}
	switch w.chance.below(4) {
	case 0:
		return all()
	case 1:
		r.Lo = ""
	case 2:
		r.Lo, r.Hi = min(r.Lo, r.Hi), max(r.Lo, r.Hi)
	}
	return r
}

// conditions has some that take rows, and some that are refused for rows.
func conditions() []string {
	return []string{
		"b > 0", "b is null", "a % 2 = 1", "c < 0.0 or c is null", "null", "true", "false", "d <> ''",
		"5 / b > 1", "b + 9223372036854775803 > 0", "a in (1, 3, b)", "b = 5 and a > 2",
	}
}

func (w *world) where() api.Expr {
	if w.chance.below(3) == 0 {
		return api.Expr{}
	}
	l := conditions()
	e, err := pred.Parse(w.table, l[w.chance.below(len(l))])
	wants(w.t, "Parse", err, api.OK)
	return e
}

func (w *world) scan(i int) api.Scan {
	most := w.chance.below(worldSlots+3) - 1
	if w.chance.below(3) == 0 {
		most = many
	}
	return api.Scan{Index: w.chance.below(5) - 2, Range: w.keys(i), Where: w.where(), Back: w.chance.below(2) == 0, Most: most}
}
