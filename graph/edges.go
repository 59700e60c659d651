package graph

import (
	"cmp"
	"slices"
	"sort"

	"vellum/api"
)

// edge leads to a place among the committed transactions, for the item at a place.
type edge struct{ to, kind, item int }

// stretch is places of items, from one up to another one.
type stretch struct{ from, to int }

// told is an edge as the graph has it.
func (h *history) told(from int, e edge) api.Edge {
	return api.Edge{From: h.committed[from].number, To: h.committed[e.to].number, Kind: e.kind, Item: h.items[e.item]}
}

// allEdges is the graph's, counted ahead, as there may be many.
func (h *history) allEdges() []api.Edge {
	out := h.edges()
	n := 0
	for _, l := range out {
		n += len(l)
	}
	all := make([]api.Edge, 0, n)
	for from, l := range out {
		for _, e := range l {
			all = append(all, h.told(from, e))
		}
	}
	return all
}

// edges is, of each committed transaction, those that lead from it, each once, in order.
func (h *history) edges() [][]edge {
	out := make([][]edge, len(h.committed))
	h.addOverwrites(out)
	for _, t := range h.committed {
		h.addReads(out, t)
		h.addUnseen(out, t)
	}
	for i, l := range out {
		slices.SortFunc(l, func(a, b edge) int {
			return cmp.Or(cmp.Compare(a.to, b.to), cmp.Compare(a.kind, b.kind), cmp.Compare(a.item, b.item))
		})
		out[i] = slices.Compact(l)
	}
	return out
}

func lead(out [][]edge, from, to *txn, kind, item int) {
	if from != to {
		out[from.place] = append(out[from.place], edge{to.place, kind, item})
	}
}

func (h *history) addOverwrites(out [][]edge) {
	for i, item := range h.items {
		l := h.versions[item]
		for j, to := range l[1:] {
			lead(out, l[j], to, api.EdgeWW, i)
		}
	}
}

// addReads adds the edges of the versions that a transaction read, and that its scans tell.
func (h *history) addReads(out [][]edge, t *txn) {
	for _, s := range t.reads {
		h.addVersion(out, t, s, api.EdgeRW)
	}
	for _, a := range t.scans {
		for _, s := range a.Seen {
			h.addVersion(out, t, s, api.EdgePW)
		}
	}
}

// addVersion adds the edges of one version: from who wrote it, and to who wrote the next one.
func (h *history) addVersion(out [][]edge, t *txn, s api.Saw, kind int) {
	stamp, committed := h.stampOf(s.From)
	if !committed {
		return
	}
	item, _ := slices.BinarySearch(h.items, s.Item)
	if s.From != 0 {
		lead(out, h.txns[s.From], t, api.EdgeWR, item)
	}
	l := h.versions[s.Item]
	next := sort.Search(len(l), func(i int) bool { return l[i].stamp > stamp })
	if next < len(l) {
		lead(out, t, l[next], kind, item)
	}
}

// addUnseen adds the edges of the first versions that a transaction's scans do not tell.
func (h *history) addUnseen(out [][]edge, t *txn) {
	// Many scans may go over the same items: without this their edges would be many times those that are told.
	done := make([]bool, len(h.items))
	for _, a := range t.scans {
		for _, s := range h.unseen(a) {
			for i := s.from; i < s.to; i++ {
				if !done[i] {
					done[i] = true
					lead(out, t, h.firsts[i], api.EdgePW, i)
				}
			}
		}
	}
}

// unseen is the items of a scan's range that it does not tell: it saw their first version.
func (h *history) unseen(a api.Action) []stretch {
	var l []stretch
	at, end := within(h.items, a.Range)
	for _, s := range a.Seen {
		n, told := slices.BinarySearch(h.items[at:end], s.Item)
		l = append(l, stretch{at, at + n})
		at += n
		if told {
			at++
		}
	}
	return append(l, stretch{at, end})
}
