package graph

import (
	"slices"
	"sort"

	"vellum/api"
	"vellum/code"
)

// formed tells whether an action has a kind, a transaction, and no part that its kind has not.
func formed(a api.Action) bool {
	switch a.Kind {
	case api.ActBegin, api.ActCommit:
		a.Stamp = 0
	case api.ActRead:
		a.Item, a.From, a.Nth = "", 0, 0
	case api.ActScan:
		a.Range, a.Seen = api.Range{}, nil
	case api.ActWrite:
		a.Item = ""
	case api.ActAbort:
	default:
		return false
	}
	bare := a.Item == "" && a.From == 0 && a.Nth == 0 && a.Range == api.Range{} && len(a.Seen) == 0 && a.Stamp == 0
	return a.Txn >= 1 && bare
}

// add takes the next action, if it may stand behind those ahead of it.
func (h *history) add(a api.Action) bool {
	t := h.txns[a.Txn]
	if t == nil {
		t = &txn{number: a.Txn}
		h.txns[a.Txn] = t
	} else if t.ended || a.Kind == api.ActBegin {
		return false
	}
	switch a.Kind {
	case api.ActBegin:
		t.begun, t.snapshot = true, a.Stamp
	case api.ActRead:
		return h.addRead(t, api.Saw{Item: a.Item, From: a.From, Nth: a.Nth})
	case api.ActScan:
		return h.addScan(t, a)
	case api.ActWrite:
		h.addWrite(t, a.Item)
	case api.ActCommit:
		return h.addCommit(t, a.Stamp)
	case api.ActAbort:
		t.ended = true
	}
	return true
}

func (h *history) addRead(t *txn, s api.Saw) bool {
	if !h.mayRead(t, s) {
		return false
	}
	t.reads = append(t.reads, s)
	return true
}

func (h *history) addScan(t *txn, a api.Action) bool {
	own := 0
	for i, s := range a.Seen {
		rises := i == 0 || a.Seen[i-1].Item < s.Item
		if !rises || !code.Has(a.Range, s.Item) || !h.mayRead(t, s) {
			return false
		}
		if s.From == t.number {
			own++
		}
	}
	// Each of its own that it saw is another item of the range: so one is missing just if they are fewer.
	from, to := within(t.items, a.Range)
	if own < to-from {
		return false
	}
	t.scans = append(t.scans, a)
	return true
}

// mayRead tells whether there is such a version, and that it is the reader's own last one, if that one wrote the item.
func (h *history) mayRead(t *txn, s api.Saw) bool {
	if own := h.times[written{t.number, s.Item}]; own > 0 {
		return s.From == t.number && s.Nth == own
	}
	if s.From == 0 {
		return s.Nth == 0
	}
	return s.Nth >= 1 && s.Nth <= h.times[written{s.From, s.Item}]
}

func (h *history) addWrite(t *txn, item string) {
	w := written{t.number, item}
	if h.times[w] == 0 {
		i, _ := slices.BinarySearch(t.items, item)
		t.items = slices.Insert(t.items, i, item)
	}
	h.times[w]++
}

func (h *history) addCommit(t *txn, stamp uint64) bool {
	last := uint64(0)
	if n := len(h.committed); n > 0 {
		last = h.committed[n-1].stamp
	}
	if stamp <= last {
		return false
	}
	t.ended, t.stamp = true, stamp
	h.committed = append(h.committed, t)
	for _, item := range t.items {
		h.versions[item] = append(h.versions[item], t)
	}
	return true
}

// within is from where up to where rising items are in a range.
func within(items []string, r api.Range) (int, int) {
	onwards := api.Range{Lo: r.Lo, Open: true}
	from := sort.Search(len(items), func(i int) bool { return code.Has(onwards, items[i]) })
	n := sort.Search(len(items)-from, func(i int) bool { return !code.Has(r, items[from+i]) })
	return from, from + n
}
