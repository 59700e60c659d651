package graph

import (
	"cmp"
	"maps"
	"slices"

	"vellum/api"
)

// txn is what a history tells of a transaction.
type txn struct {
	number   int
	place    int // among the committed ones, by numbers
	begun    bool
	ended    bool
	snapshot uint64
	stamp    uint64   // 0, if it is not committed
	items    []string // what it wrote, rising
	reads    []api.Saw
	scans    []api.Action
}

// written is an item that a transaction wrote.
type written struct {
	txn  int
	item string
}

// history is what actions tell that may be.
type history struct {
	txns      map[int]*txn
	times     map[written]int   // how many times it was written
	committed []*txn            // by numbers, once all actions are read; till then by stamps
	versions  map[string][]*txn // of an item the committed ones that wrote it, by stamps
	items     []string          // those that have versions, rising
	firsts    []*txn            // of each of these who wrote the first one
}

// read is what a history tells, or the place of the first action that may not be.
func read(l []api.Action) (*history, int, api.Errno) {
	if tooLong(l) {
		return nil, 0, api.ErrFull
	}
	h := &history{txns: map[int]*txn{}, times: map[written]int{}, versions: map[string][]*txn{}}
	for i, a := range l {
		if !formed(a) || !h.add(a) {
			return nil, i, api.ErrHistory
		}
	}
	h.finish()
	return h, 0, api.OK
}

func tooLong(l []api.Action) bool {
	seen := 0
	for _, a := range l {
		if a.Kind == api.ActScan {
			seen += len(a.Seen)
		}
	}
	return len(l) > api.MaxActions || seen > api.MaxActions
}

// finish makes lists of what came in the order of the actions: places in them stand as numbers and bytes do.
func (h *history) finish() {
	slices.SortFunc(h.committed, func(a, b *txn) int { return cmp.Compare(a.number, b.number) })
	for i, t := range h.committed {
		t.place = i
	}
	h.items = slices.Sorted(maps.Keys(h.versions))
	for _, item := range h.items {
		h.firsts = append(h.firsts, h.versions[item][0])
	}
}

// stampOf is the stamp of a write's transaction, 0 of nobody's, which is ahead of all; and false, if that one is not committed.
func (h *history) stampOf(from int) (uint64, bool) {
	if from == 0 {
		return 0, true
	}
	stamp := h.txns[from].stamp
	return stamp, stamp > 0
}

// saw is all that a transaction read, by scans too.
func (t *txn) saw() []api.Saw {
	l := slices.Clone(t.reads)
	for _, a := range t.scans {
		l = append(l, a.Seen...)
	}
	return l
}
