package store_test

import (
	"fmt"
	"maps"
	"slices"
	"strings"
	"testing"

	"vellum/api"
	"vellum/chain"
	"vellum/lit"
	"vellum/store"
	"vellum/value"
)

// rows is what a store can be asked.
type rows interface {
	Add(txn int, w api.Write) (int, api.Errno)
	Write(slot, txn int, w api.Write, snapshot uint64) api.Errno
	Read(slot, txn int, stamp uint64) ([]api.Value, bool)
	Back(txn, level int) []int
	Fold(txn, level int) api.Errno
	Settle(txn int, stamp uint64) (int, api.Errno)
	Prune(floor uint64) (int, []int)
	Versions(slot int) []api.Version
	Intent(slot int) api.Intent
	Slots() []int
}

// plainRow is a row as the chapter has it.
type plainRow struct {
	versions []api.Version
	intent   api.Intent
}

// plain is a store as one caller sees it: rows in a map, gone over slot by slot.
type plain struct {
	most int
	rows map[int]plainRow
}

func newPlain(most int) *plain { return &plain{most, map[int]plainRow{}} }

func (p *plain) clone() *plain { return &plain{p.most, maps.Clone(p.rows)} }

// leave puts a row back: one that has nothing is there no more.
func (p *plain) leave(slot int, r plainRow) (there bool) {
	if len(r.versions) == 0 && len(r.intent.Writes) == 0 {
		delete(p.rows, slot)
		return false
	}
	p.rows[slot] = r
	return true
}

// of is the slots of the rows whose intent is a transaction's.
func (p *plain) of(txn int) []int {
	var l []int
	for _, slot := range p.Slots() {
		if in := p.rows[slot].intent; in.Txn == txn && len(in.Writes) > 0 {
			l = append(l, slot)
		}
	}
	return l
}

func (p *plain) Add(txn int, w api.Write) (int, api.Errno) {
	if txn < 1 || w.Level < 0 || w.Gone {
		return 0, api.ErrArg
	}
	for slot := range p.most {
		if _, there := p.rows[slot]; !there {
			p.rows[slot] = plainRow{intent: api.Intent{Txn: txn, Writes: []api.Write{w}}}
			return slot, api.OK
		}
	}
	return 0, api.ErrFull
}

func (p *plain) Write(slot, txn int, w api.Write, snapshot uint64) api.Errno {
	r, there := p.rows[slot]
	if !there {
		return api.ErrRowless
	}
	nobody := len(r.intent.Writes) == 0
	in := api.Intent{Txn: txn}
	if !nobody && r.intent.Txn == txn {
		in = r.intent
	}
	in, err := chain.Put(in, w)
	if err != api.OK {
		return api.ErrArg
	}
	if !nobody && r.intent.Txn != txn {
		return api.ErrBusy
	}
	if nobody && r.versions[0].Stamp > snapshot {
		return api.ErrNewer
	}
	r.intent = in
	p.rows[slot] = r
	return api.OK
}

func (p *plain) Read(slot, txn int, stamp uint64) ([]api.Value, bool) {
	return chain.See(p.rows[slot].versions, p.rows[slot].intent, txn, stamp)
}

func (p *plain) Back(txn, level int) []int {
	var gone []int
	for _, slot := range p.of(txn) {
		r := p.rows[slot]
		r.intent = chain.Back(r.intent, level)
		if !p.leave(slot, r) {
			gone = append(gone, slot)
		}
	}
	return gone
}

func (p *plain) Fold(txn, level int) api.Errno {
	if level < 1 {
		return api.ErrArg
	}
	for _, slot := range p.of(txn) {
		r := p.rows[slot]
		r.intent, _ = chain.Fold(r.intent, level)
		p.leave(slot, r)
	}
	return api.OK
}

func (p *plain) Settle(txn int, stamp uint64) (int, api.Errno) {
	if stamp == 0 || stamp > api.MaxStamp {
		return 0, api.ErrArg
	}
	for _, slot := range p.of(txn) {
		for _, v := range p.rows[slot].versions {
			if v.Stamp >= stamp {
				return 0, api.ErrOlder
			}
		}
	}
	all := p.of(txn)
	for _, slot := range all {
		r := p.rows[slot]
		last := r.intent.Writes[len(r.intent.Writes)-1]
		r.intent = api.Intent{}
		gone := len(r.versions) == 0 || r.versions[0].Gone
		if !last.Gone || !gone {
			r.versions = slices.Concat([]api.Version{{Stamp: stamp, Gone: last.Gone, Row: last.Row}}, r.versions)
		}
		p.leave(slot, r)
	}
	return len(all), api.OK
}

func (p *plain) Prune(floor uint64) (int, []int) {
	all, gone := 0, []int(nil)
	for _, slot := range p.Slots() {
		r, went := p.rows[slot], 0
		r.versions, went = chain.Prune(r.versions, floor)
		all += went
		if !p.leave(slot, r) {
			gone = append(gone, slot)
		}
	}
	return all, gone
}

func (p *plain) Versions(slot int) []api.Version { return p.rows[slot].versions }

func (p *plain) Intent(slot int) api.Intent { return p.rows[slot].intent }

func (p *plain) Slots() []int { return slices.Sorted(maps.Keys(p.rows)) }

// The calls of a step.
const (
	add = iota
	write
	read
	back
	fold
	settle
	prune
	kinds
)

// step is a call that changes a store, or reads; of its fields those count that the call has.
type step struct {
	kind  int
	slot  int
	txn   int
	w     api.Write
	stamp uint64
}

// do does a step: all that is told, in a text.
func do(r rows, s step) string {
	switch s.kind {
	case add:
		slot, err := r.Add(s.txn, s.w)
		return fmt.Sprint("add ", slot, " ", int(err))
	case write:
		return fmt.Sprint("write ", int(r.Write(s.slot, s.txn, s.w, s.stamp)))
	case read:
		row, there := r.Read(s.slot, s.txn, s.stamp)
		return "read " + shownRow(!there, row)
	case back:
		return fmt.Sprint("back ", r.Back(s.txn, s.w.Level))
	case fold:
		return fmt.Sprint("fold ", int(r.Fold(s.txn, s.w.Level)))
	case settle:
		n, err := r.Settle(s.txn, s.stamp)
		return fmt.Sprint("settle ", n, " ", int(err))
	default:
		n, gone := r.Prune(s.stamp)
		return fmt.Sprint("prune ", n, " ", gone)
	}
}

// shown is all that a store tells without change, in a text; who reads, and at which stamps, is handed in.
func shown(r rows, most, txns int, stamps []uint64) string {
	var b strings.Builder
	fmt.Fprint(&b, "slots ", r.Slots(), "\n")
	for slot := -1; slot <= most; slot++ {
		fmt.Fprint(&b, slot, ": ", shownVersions(r.Versions(slot)), " ", shownIntent(r.Intent(slot)))
		for txn := range txns + 1 {
			for _, stamp := range stamps {
				row, there := r.Read(slot, txn, stamp)
				fmt.Fprint(&b, " ", shownRow(!there, row))
			}
		}
		b.WriteByte('\n')
	}
	return b.String()
}

func shownVersions(l []api.Version) string {
	var b strings.Builder
	for _, v := range l {
		fmt.Fprint(&b, shownRow(v.Gone, v.Row), "@", v.Stamp, " ")
	}
	return "(" + b.String() + ")"
}

func shownIntent(in api.Intent) string {
	var b strings.Builder
	for _, w := range in.Writes {
		fmt.Fprint(&b, shownRow(w.Gone, w.Row), " on ", w.Level, " ")
	}
	return fmt.Sprint("(of ", in.Txn, ": ", b.String(), ")")
}

func shownRow(gone bool, row []api.Value) string {
	var b strings.Builder
	if gone {
		b.WriteString("-")
	}
	for _, v := range row {
		s, e := value.Text(v)
		if e != api.OK {
			s = "?"
		}
		b.WriteString("[" + s + "]")
	}
	return b.String()
}

func row(n int64) []api.Value { return []api.Value{lit.Int(n)} }

func on(level int, n int64) api.Write { return api.Write{Level: level, Row: row(n)} }

func goneOn(level int) api.Write { return api.Write{Level: level, Gone: true} }

func newStore(t testing.TB, most int) *store.Store {
	t.Helper()
	s, err := store.New(most)
	if err != api.OK || s == nil {
		t.Fatalf("New(%d) = %v, %d", most, s, err)
	}
	return s
}

// rng is a row of numbers that look like chance, the same each time.
type rng uint64

func (r *rng) below(n int) int {
	*r = *r*6364136223846793005 + 1442695040888963407
	return int(uint64(*r>>33) % uint64(n))
}
