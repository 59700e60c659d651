package graph

import (
	"slices"

	"vellum/api"
)

func (h *history) phenomena() api.Phenomena {
	out := h.edges()
	overwrites := parts(targets(out, api.EdgeWW))
	depends := parts(targets(out, api.EdgeWW, api.EdgeWR))
	all := parts(allTargets(out))
	return api.Phenomena{
		G0:      turns(out, overwrites, api.EdgeWW),
		G1a:     h.readsUncommitted(),
		G1b:     h.readsBetween(),
		G1c:     turns(out, depends, api.EdgeWW, api.EdgeWR),
		GSingle: single(out),
		G2Item:  turns(out, all, api.EdgeRW),
		G2:      turns(out, all, api.EdgeRW, api.EdgePW),
	}
}

func allTargets(out [][]edge) [][]int {
	return targets(out, api.EdgeWW, api.EdgeWR, api.EdgeRW, api.EdgePW)
}

// someSaw tells whether some committed transaction read, or saw, a version that is meant.
func (h *history) someSaw(meant func(*txn, api.Saw) bool) bool {
	return slices.ContainsFunc(h.committed, func(t *txn) bool {
		return slices.ContainsFunc(t.saw(), func(s api.Saw) bool { return meant(t, s) })
	})
}

// readsUncommitted is G1a.
func (h *history) readsUncommitted() bool {
	return h.someSaw(func(_ *txn, s api.Saw) bool {
		_, committed := h.stampOf(s.From)
		return !committed
	})
}

// readsBetween is G1b.
func (h *history) readsBetween() bool {
	return h.someSaw(func(t *txn, s api.Saw) bool {
		_, committed := h.stampOf(s.From)
		return committed && s.From != t.number && s.Nth < h.times[written{s.From, s.Item}]
	})
}

// single is GSingle: along other edges one comes back from where an edge of EdgeRW or EdgePW leads to.
func single(out [][]edge) bool {
	along := targets(out, api.EdgeWW, api.EdgeWR)
	for from, l := range targets(out, api.EdgeRW, api.EdgePW) {
		if len(way(along, l, from)) > 0 {
			return true
		}
	}
	return false
}

// round is edges of one, if there is one.
func (h *history) round() []api.Edge {
	out := h.edges()
	next := allTargets(out)
	part := parts(next)
	for from, l := range next {
		for _, to := range l {
			if part[from] == part[to] {
				return h.along(out, append([]int{from}, way(next, []int{to}, from)...))
			}
		}
	}
	return nil
}

// along is edges from each place to the next one.
func (h *history) along(out [][]edge, places []int) []api.Edge {
	var l []api.Edge
	for i, to := range places[1:] {
		from := places[i]
		e := slices.IndexFunc(out[from], func(e edge) bool { return e.to == to })
		l = append(l, h.told(from, out[from][e]))
	}
	return l
}

func (h *history) serial() ([]int, api.Errno) {
	if h.readsUncommitted() || h.readsBetween() {
		return nil, api.ErrRound
	}
	places := order(allTargets(h.edges()))
	if len(places) < len(h.committed) {
		return nil, api.ErrRound
	}
	var l []int
	for _, place := range places {
		l = append(l, h.committed[place].number)
	}
	return l, api.OK
}
