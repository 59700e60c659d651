package txn_test

import (
	"fmt"
	"slices"
	"strings"

	"vellum/api"
	"vellum/code"
	"vellum/pred"
	"vellum/row"
	"vellum/schema"
	"vellum/sets"
	"vellum/value"
)

// The words of the chapter, one by one: rows in their slots, entries in maps, all indexes of all tables swept wherever the chapter says so.

type plainRow struct {
	versions []api.Version
	intent   api.Intent
}

type plainTable struct {
	as      api.Table
	rows    map[int]*plainRow
	entries []map[string]int
}

type plainTxn struct {
	level int
	begun uint64
	alone bool
	saves int
	foot  api.Foot
}

type plainCommit struct {
	stamp  uint64
	writes []api.Point
}

type plainDB struct {
	tables   []*plainTable
	frontier uint64
	floor    uint64
	last     int
	active   map[int]*plainTxn
	commits  []plainCommit
}

func newPlain(tables []api.Table) *plainDB {
	d := &plainDB{active: map[int]*plainTxn{}}
	for _, t := range tables {
		p := &plainTable{as: t, rows: map[int]*plainRow{}}
		for range len(t.Indexes) + 1 {
			p.entries = append(p.entries, map[string]int{})
		}
		d.tables = append(d.tables, p)
	}
	return d
}

func (d *plainDB) begin(level int) (int, api.Errno) {
	if level != committed && level != snapshot && level != serial {
		return 0, api.ErrLevel
	}
	return d.add(&plainTxn{level: level, begun: d.frontier})
}

func (d *plainDB) beginAt(stamp uint64) (int, api.Errno) {
	if stamp > d.frontier {
		return 0, api.ErrArg
	}
	if stamp < d.floor {
		return 0, api.ErrLow
	}
	return d.add(&plainTxn{level: snapshot, begun: stamp, alone: true})
}

func (d *plainDB) add(x *plainTxn) (int, api.Errno) {
	if len(d.active) == 256 {
		return 0, api.ErrFull
	}
	d.last++
	d.active[d.last] = x
	return d.last, api.OK
}

func (d *plainDB) snapshot(n int) uint64 {
	if x := d.active[n]; x.level != committed {
		return x.begun
	}
	return d.frontier
}

func (d *plainDB) numbers() []int {
	l := []int{}
	for n := range d.active {
		l = append(l, n)
	}
	slices.Sort(l)
	return l
}

// key is a row's key in an index.
func (t *plainTable) key(index int, l []api.Value) (string, api.Errno) {
	if index == -1 {
		return row.Key(t.as, l)
	}
	return row.Entry(t.as, index, l)
}

// see is what a view tells of a slot.
func (t *plainTable) see(slot, txn int, stamp uint64) ([]api.Value, bool) {
	r := t.rows[slot]
	if r == nil {
		return nil, false
	}
	if txn != 0 && r.intent.Txn == txn {
		w := r.intent.Writes[len(r.intent.Writes)-1]
		return w.Row, !w.Gone
	}
	for _, v := range r.versions {
		if v.Stamp <= stamp {
			return v.Row, !v.Gone
		}
	}
	return nil, false
}

// hits is the entries of an index in a range, rising.
func (t *plainTable) hits(index int, r api.Range) []api.Hit {
	var l []api.Hit
	for k, slot := range t.entries[index+1] {
		if code.Has(r, k) {
			l = append(l, api.Hit{Key: k, Slot: slot})
		}
	}
	slices.SortFunc(l, func(a, b api.Hit) int { return strings.Compare(a.Key, b.Key) })
	return l
}

func (d *plainDB) checkKey(t *plainTable, l []api.Value) (string, api.Errno) {
	if len(l) != len(t.as.Key) {
		return "", api.ErrArg
	}
	for i, v := range l {
		if v.Kind == api.KindNull || v.Kind != t.as.Columns[t.as.Key[i]].Kind {
			return "", api.ErrArg
		}
	}
	for _, v := range l {
		if err := value.Check(v); err != api.OK {
			return "", err
		}
	}
	return code.Encode(l)
}

func (d *plainDB) checkRow(t *plainTable, l []api.Value) (string, api.Errno) {
	if err := schema.Admits(t.as, l); err != api.OK {
		return "", err
	}
	for index := -1; index < len(t.as.Indexes); index++ {
		if _, err := t.key(index, l); err != api.OK {
			return "", err
		}
	}
	if _, err := row.Encode(t.as, l); err != api.OK {
		return "", err
	}
	return t.key(-1, l)
}

func (d *plainDB) note(x *plainTxn, f api.Foot) api.Errno {
	merged, err := sets.Merge(x.foot, f)
	if err != api.OK {
		return err
	}
	x.foot = merged
	return api.OK
}

func (d *plainDB) notePoint(x *plainTxn, table int, k string) api.Errno {
	if x.level != serial {
		return api.OK
	}
	return d.note(x, api.Foot{Points: []api.Point{{Table: table, Index: -1, Key: k}}})
}

func (d *plainDB) get(n, table int, l []api.Value) ([]api.Value, bool, api.Errno) {
	x := d.active[n]
	if x == nil {
		return nil, false, api.ErrTxn
	}
	if table < 0 || table >= len(d.tables) {
		return nil, false, api.ErrNone
	}
	t := d.tables[table]
	k, err := d.checkKey(t, l)
	if err != api.OK {
		return nil, false, err
	}
	if err := d.notePoint(x, table, k); err != api.OK {
		return nil, false, err
	}
	slot, there := t.entries[0][k]
	if !there {
		return nil, false, api.OK
	}
	r, seen := t.see(slot, n, d.snapshot(n))
	return r, seen, api.OK
}

func (d *plainDB) scan(n, table int, q api.Scan) ([]api.Seen, api.Errno) {
	x := d.active[n]
	if x == nil {
		return nil, api.ErrTxn
	}
	if table < 0 || table >= len(d.tables) || q.Index < -1 || q.Index >= len(d.tables[table].as.Indexes) {
		return nil, api.ErrNone
	}
	t := d.tables[table]
	if q.Where.Kind != 0 {
		kind, err := pred.Check(t.as, q.Where)
		if err != api.OK {
			return nil, err
		}
		if kind != api.KindBool && kind != api.KindNull {
			return nil, api.ErrType
		}
	}
	l, through, err := t.all(q, n, d.snapshot(n))
	if err != api.OK {
		through = q.Range
	}
	if x.level == serial {
		if err := d.note(x, api.Foot{Spans: []api.Span{{Table: table, Index: q.Index, Range: through}}}); err != api.OK {
			return nil, err
		}
	}
	return l, err
}

// all is what layer 16's All tells.
func (t *plainTable) all(q api.Scan, txn int, stamp uint64) ([]api.Seen, api.Range, api.Errno) {
	hits := t.hits(q.Index, q.Range)
	if q.Back {
		slices.Reverse(hits)
	}
	var l []api.Seen
	stands := ""
	for _, h := range hits {
		if len(l) >= q.Most {
			break
		}
		stands = h.Key
		r, seen := t.see(h.Slot, txn, stamp)
		if !seen {
			continue
		}
		if k, _ := t.key(q.Index, r); k != h.Key {
			continue
		}
		takes, err := true, api.OK
		if q.Where.Kind != 0 {
			takes, err = pred.Takes(t.as, q.Where, r)
		}
		if err != api.OK {
			return nil, api.Range{}, err
		}
		if takes {
			l = append(l, api.Seen{Slot: h.Slot, Key: h.Key, Row: r})
		}
	}
	switch {
	case q.Most < 1:
		return l, api.Range{}, api.OK
	case len(l) < q.Most:
		return l, q.Range, api.OK
	case q.Back:
		return l, code.Both(q.Range, api.Range{Lo: stands, Open: true}), api.OK
	}
	return l, code.Both(q.Range, api.Range{Hi: stands + "\x00"}), api.OK
}

// inWay is 1. and 2. of a key, and what is seen there.
func (d *plainDB) inWay(n int, t *plainTable, k string) ([]api.Value, bool, api.Errno) {
	slot, there := t.entries[0][k]
	if !there {
		return nil, false, api.OK
	}
	r := t.rows[slot]
	if r.intent.Txn != 0 && r.intent.Txn != n {
		return nil, false, api.ErrBusy
	}
	if r.intent.Txn == 0 && r.versions[0].Stamp > d.snapshot(n) && d.active[n].level != committed {
		return nil, false, api.ErrNewer
	}
	l, seen := t.see(slot, n, d.snapshot(n))
	return l, seen, api.OK
}

// write is Insert (no key), Update, and Delete (no row); try: nothing is written.
func (d *plainDB) write(n, table int, insert, deletes bool, l, to []api.Value, try bool) api.Errno {
	x := d.active[n]
	if x == nil {
		return api.ErrTxn
	}
	if x.alone {
		return api.ErrReads
	}
	if table < 0 || table >= len(d.tables) {
		return api.ErrNone
	}
	t := d.tables[table]
	var k, k2 string
	err := api.OK
	if !insert {
		if k, err = d.checkKey(t, l); err != api.OK {
			return err
		}
	}
	if !deletes {
		if k2, err = d.checkRow(t, to); err != api.OK {
			return err
		}
	}
	if insert {
		k = k2
	}
	if deletes {
		k2 = k
	}
	read := api.Foot{Points: []api.Point{{Table: table, Index: -1, Key: k}}}
	if k2 != k {
		read.Points = append(read.Points, api.Point{Table: table, Index: -1, Key: k2})
	}
	if x.level == serial {
		if err := d.note(x, read); err != api.OK {
			return err
		}
	}
	was, seen, err := d.inWay(n, t, k)
	if err != api.OK {
		return err
	}
	if insert && seen {
		return api.ErrExists
	}
	if !insert && !seen {
		return api.ErrMissing
	}
	if k2 != k {
		_, other, err := d.inWay(n, t, k2)
		if err != api.OK {
			return err
		}
		if other {
			return api.ErrExists
		}
	}
	var points []api.Point
	for _, r := range [][]api.Value{was, to} {
		for index := -1; index < len(t.as.Indexes) && len(r) > 0; index++ {
			key, _ := t.key(index, r)
			points = append(points, api.Point{Table: table, Index: index, Key: key})
		}
	}
	foot := x.foot
	if err := d.note(x, api.Foot{Writes: points}); err != api.OK {
		return err
	}
	if try {
		x.foot = foot
		return api.OK
	}
	if deletes || k2 != k {
		t.put(k, n, api.Write{Level: x.saves, Gone: true})
	}
	if !deletes {
		t.put(k2, n, api.Write{Level: x.saves, Row: to})
	}
	return api.OK
}

// put writes in a key's slot, or in a new one, and puts the entries.
func (t *plainTable) put(k string, n int, w api.Write) {
	slot, there := t.entries[0][k]
	if !there {
		for t.rows[slot] != nil {
			slot++
		}
		t.rows[slot] = &plainRow{}
	}
	in := &t.rows[slot].intent
	in.Txn = n
	if last := len(in.Writes) - 1; last >= 0 && in.Writes[last].Level == w.Level {
		in.Writes = in.Writes[:last]
	}
	in.Writes = append(in.Writes, w)
	for index := -1; index < len(t.as.Indexes) && !w.Gone; index++ {
		key, _ := t.key(index, w.Row)
		t.entries[index+1][key] = slot
	}
}

// sweep takes out, in all indexes of all tables, what Sweep takes out.
func (d *plainDB) sweep() int {
	went := 0
	for _, t := range d.tables {
		for slot, r := range t.rows {
			if len(r.versions) == 0 && r.intent.Txn == 0 {
				delete(t.rows, slot)
			}
		}
		for i := range t.entries {
			for _, h := range t.hits(i-1, all()) {
				if !t.has(i-1, h) {
					delete(t.entries[i], h.Key)
					went++
				}
			}
		}
	}
	return went
}

func (t *plainTable) has(index int, h api.Hit) bool {
	r := t.rows[h.Slot]
	if r == nil {
		return false
	}
	if r.intent.Txn != 0 {
		return true
	}
	for _, v := range r.versions {
		if k, _ := t.key(index, v.Row); !v.Gone && k == h.Key {
			return true
		}
	}
	return false
}

func (d *plainDB) save(n int) (int, api.Errno) {
	x := d.active[n]
	switch {
	case x == nil:
		return 0, api.ErrTxn
	case x.alone:
		return 0, api.ErrReads
	case x.saves == 1000:
		return 0, api.ErrFull
	}
	x.saves++
	return x.saves, api.OK
}

func (d *plainDB) back(n, save int) api.Errno {
	x := d.active[n]
	switch {
	case x == nil:
		return api.ErrTxn
	case save < 1 || save > x.saves:
		return api.ErrSave
	}
	d.undo(n, save)
	x.saves = save
	return api.OK
}

func (d *plainDB) undo(n, level int) {
	for _, t := range d.tables {
		for _, r := range t.rows {
			if r.intent.Txn != n {
				continue
			}
			var left []api.Write
			for _, w := range r.intent.Writes {
				if w.Level < level {
					left = append(left, w)
				}
			}
			r.intent.Writes = left
			if len(left) == 0 {
				r.intent = api.Intent{}
			}
		}
	}
	d.sweep()
}

func (d *plainDB) release(n, save int) api.Errno {
	x := d.active[n]
	switch {
	case x == nil:
		return api.ErrTxn
	case save < 1 || save > x.saves:
		return api.ErrSave
	}
	for _, t := range d.tables {
		for _, r := range t.rows {
			if r.intent.Txn != n {
				continue
			}
			last := r.intent.Writes[len(r.intent.Writes)-1]
			if last.Level < save {
				continue
			}
			var left []api.Write
			for _, w := range r.intent.Writes {
				if w.Level < save-1 {
					left = append(left, w)
				}
			}
			last.Level = save - 1
			r.intent.Writes = append(left, last)
		}
	}
	x.saves = save - 1
	return api.OK
}

func (d *plainDB) wrote(n int) int {
	rows := 0
	for _, t := range d.tables {
		for _, r := range t.rows {
			if r.intent.Txn == n {
				rows++
			}
		}
	}
	return rows
}

func (d *plainDB) commit(n int) (uint64, api.Errno) {
	x := d.active[n]
	if x == nil {
		return 0, api.ErrTxn
	}
	if d.wrote(n) == 0 {
		stamp := d.snapshot(n)
		delete(d.active, n)
		return stamp, api.OK
	}
	for _, c := range d.commits {
		if x.level != serial || c.stamp <= x.begun {
			continue
		}
		for _, p := range c.writes {
			if sets.Reads(x.foot, p) {
				return 0, d.abortFor(n, api.ErrSerial)
			}
		}
	}
	for _, y := range d.active {
		if y.level == serial && d.frontier-y.begun >= 4096 {
			return 0, api.ErrFull
		}
	}
	if d.frontier == 1<<62 {
		return 0, api.ErrEnd
	}
	d.frontier++
	for _, t := range d.tables {
		for _, r := range t.rows {
			if r.intent.Txn == n {
				r.settle(d.frontier)
			}
		}
	}
	d.commits = append(d.commits, plainCommit{d.frontier, x.foot.Writes})
	delete(d.active, n)
	d.sweep()
	return d.frontier, api.OK
}

func (r *plainRow) settle(stamp uint64) {
	last := r.intent.Writes[len(r.intent.Writes)-1]
	r.intent = api.Intent{}
	if last.Gone && (len(r.versions) == 0 || r.versions[0].Gone) {
		return
	}
	r.versions = slices.Insert(r.versions, 0, api.Version{Stamp: stamp, Gone: last.Gone, Row: last.Row})
}

func (d *plainDB) abort(n int) api.Errno {
	if d.active[n] == nil {
		return api.ErrTxn
	}
	return d.abortFor(n, api.OK)
}

func (d *plainDB) abortFor(n int, err api.Errno) api.Errno {
	d.undo(n, 0)
	delete(d.active, n)
	return err
}

func (d *plainDB) horizon() uint64 {
	least := d.frontier
	for _, x := range d.active {
		if x.level != committed {
			least = min(least, x.begun)
		}
	}
	return least
}

func (d *plainDB) prune(to uint64) api.Pruned {
	d.floor = max(d.floor, min(to, d.horizon()))
	var p api.Pruned
	for _, t := range d.tables {
		for _, r := range t.rows {
			p.Versions += r.prune(d.floor)
			if len(r.versions) == 0 && r.intent.Txn == 0 {
				p.Rows++
			}
		}
	}
	p.Entries = d.sweep()
	return p
}

func (r *plainRow) prune(floor uint64) int {
	var left []api.Version
	seen := false
	for _, v := range r.versions {
		if v.Stamp > floor || !seen && !v.Gone {
			left = append(left, v)
		}
		seen = seen || v.Stamp <= floor
	}
	went := len(r.versions) - len(left)
	r.versions = left
	return went
}

func (d *plainDB) at(table int, stamp uint64) ([][]api.Value, api.Errno) {
	switch {
	case table < 0 || table >= len(d.tables):
		return nil, api.ErrNone
	case stamp > d.frontier:
		return nil, api.ErrArg
	case stamp < d.floor:
		return nil, api.ErrLow
	}
	var l [][]api.Value
	for _, h := range d.tables[table].hits(-1, all()) {
		if r, seen := d.tables[table].see(h.Slot, 0, stamp); seen {
			l = append(l, r)
		}
	}
	return l, api.OK
}

func (d *plainDB) latest(table, index int, r api.Range) []api.Held {
	t := d.tables[table]
	var l []api.Held
	for _, h := range t.hits(index, r) {
		if slices.ContainsFunc(l, func(ahead api.Held) bool { return ahead.Slot == h.Slot }) {
			continue
		}
		l = append(l, api.Held{Slot: h.Slot, Versions: t.rows[h.Slot].versions, Intent: t.rows[h.Slot].intent})
	}
	return l
}

// state is as that of a database.
func (d *plainDB) state() string {
	var b strings.Builder
	fmt.Fprintf(&b, "frontier %d, floor %d, horizon %d, active %v\n", d.frontier, d.floor, d.horizon(), d.numbers())
	for _, n := range d.numbers() {
		x := d.active[n]
		info := api.Info{Level: x.level, Snapshot: d.snapshot(n), Saves: x.saves, Writes: d.wrote(n), Reads: x.alone}
		fmt.Fprintf(&b, "%d: %+v, %s\n", n, info, shownFoot(x.foot))
	}
	for n, t := range d.tables {
		for index := -1; index < len(t.as.Indexes); index++ {
			fmt.Fprintf(&b, "%d/%d: %s | %s\n", n, index, shownHeld(d.latest(n, index, all())), shownHits(t.hits(index, all())))
		}
		for stamp := d.floor; stamp <= d.frontier; stamp++ {
			rows, _ := d.at(n, stamp)
			fmt.Fprintf(&b, "%d at %d: %s\n", n, stamp, shownRows(rows))
		}
	}
	return b.String()
}
