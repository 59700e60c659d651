package graph

import (
	"slices"
	"sort"

	"vellum/api"
)

// begun tells whether each committed transaction has a snapshot, ahead of its commit.
func (h *history) begun() bool {
	return !slices.ContainsFunc(h.committed, func(t *txn) bool { return !t.begun || t.snapshot >= t.stamp })
}

// ofSnapshots tells whether each committed transaction read its snapshot, and the first ones that wrote won.
func (h *history) ofSnapshots() bool {
	for _, item := range h.items {
		if !firstsWon(h.versions[item]) {
			return false
		}
	}
	return !slices.ContainsFunc(h.committed, func(t *txn) bool { return !h.readsSnapshot(t) })
}

// firstsWon tells whether each of those that wrote an item saw the version of the one ahead of it: then it saw all others ahead.
func firstsWon(l []*txn) bool {
	for i, t := range l[1:] {
		if l[i].stamp > t.snapshot {
			return false
		}
	}
	return true
}

func (h *history) readsSnapshot(t *txn) bool {
	for _, s := range t.saw() {
		if s.From != t.number && s != h.versionAt(s.Item, t.snapshot) {
			return false
		}
	}
	for _, a := range t.scans {
		for _, s := range h.unseen(a) {
			if slices.ContainsFunc(h.firsts[s.from:s.to], func(first *txn) bool { return first.stamp <= t.snapshot }) {
				return false
			}
		}
	}
	return true
}

// versionAt is the version of an item that a snapshot sees.
func (h *history) versionAt(item string, snapshot uint64) api.Saw {
	l := h.versions[item]
	n := sort.Search(len(l), func(i int) bool { return l[i].stamp > snapshot })
	if n == 0 {
		return api.Saw{Item: item}
	}
	from := l[n-1].number
	return api.Saw{Item: item, From: from, Nth: h.times[written{from, item}]}
}

// sideBySide tells whether neither of two saw what the other one committed.
func sideBySide(a, b *txn) bool {
	return a.snapshot < b.stamp && b.snapshot < a.stamp
}

// dangers is counted ahead: there may be so many that a list that grows takes long to hold them.
func (h *history) dangers() []api.Danger {
	next := h.overwritten()
	n := 0
	h.eachDanger(next, func(api.Danger) { n++ })
	l := make([]api.Danger, 0, n)
	h.eachDanger(next, func(d api.Danger) { l = append(l, d) })
	return l
}

// eachDanger hands the dangerous structures over, in order.
func (h *history) eachDanger(next [][]*txn, take func(api.Danger)) {
	ends := make([][]*txn, len(next))
	for b, l := range next {
		ends[b] = slices.DeleteFunc(slices.Clone(l), func(c *txn) bool { return c.stamp > h.committed[b].stamp })
	}
	for _, a := range h.committed {
		for _, b := range next[a.place] {
			for _, c := range ends[b.place] {
				if c.stamp <= a.stamp {
					take(api.Danger{A: a.number, B: b.number, C: c.number})
				}
			}
		}
	}
}

// overwritten is, of each committed transaction, those side by side with it that overwrote what it read.
func (h *history) overwritten() [][]*txn {
	next := make([][]*txn, len(h.committed))
	for from, l := range targets(h.edges(), api.EdgeRW, api.EdgePW) {
		for _, to := range l {
			if sideBySide(h.committed[from], h.committed[to]) {
				next[from] = append(next[from], h.committed[to])
			}
		}
	}
	return next
}
