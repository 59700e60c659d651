package graph_test

import (
	"slices"
	"testing"

	"vellum/api"
	"vellum/graph"
)

// soil writes into all of a list's memory, with the room behind its end.
func soil[T any](l []T, with T) {
	l = l[:cap(l)]
	for i := range l {
		l[i] = with
	}
}

// same holds histories against each other, with the room behind their ends.
func same(a, b []api.Action) bool {
	return slices.EqualFunc(a[:cap(a)], b[:cap(b)], func(a, b api.Action) bool {
		seen := slices.Equal(a.Seen[:cap(a.Seen)], b.Seen[:cap(b.Seen)])
		a.Seen, b.Seen = nil, nil
		return seen && shown([]api.Action{a}) == shown([]api.Action{b})
	})
}

// roomy is a history with rounds and dangers, with room behind the ends of its lists in which something lies.
func roomy() []api.Action {
	h := past("b2 0, b1 0, b3 0, w3 q, c3 1, s1 a-z q0, r1 x0, s2 a-z, w2 a, w1 b, c2 2, c1 3, w9 behind, c9 1")
	for i := range h {
		if n := len(h[i].Seen); n > 0 {
			h[i].Seen = append(h[i].Seen, api.Saw{Item: "behind", From: 7})[:n]
		}
	}
	return h[: len(h)-2 : len(h)]
}

// askAll calls all, and soils what they answer.
func askAll(h []api.Action) {
	graph.Check(h)
	edges, _ := graph.Edges(h)
	soil(edges, api.Edge{Item: "soil"})
	graph.Phenomena(h)
	round, _ := graph.Round(h)
	soil(round, api.Edge{Item: "soil"})
	order, _ := graph.Serial(h)
	soil(order, 99)
	graph.Snapshot(h)
	dangers, _ := graph.Dangerous(h)
	soil(dangers, api.Danger{A: 99})
}

// R3: what is handed in is not changed, nor what lies behind the ends of its lists.
func TestArgumentsStay(t *testing.T) {
	h := roomy()
	askAll(h)
	wants(t, "the history stays", same(h, roomy()), true)
	order := past("w2 x, c2 1, r1 x2, c1 2")
	askAll(order)
	wants(t, "another one stays", same(order, past("w2 x, c2 1, r1 x2, c1 2")), true)
	wantsCheck(t, "what lies behind the end does not count", h, 0, api.OK)
	l, _ := graph.Dangerous(h)
	wants(t, "how many dangers", len(l), 3)
}

// R3, R4: what is answered hangs on the history alone, and is new memory each time.
func TestAnswersShareNothing(t *testing.T) {
	h := roomy()
	edges, _ := graph.Edges(h)
	dangers, _ := graph.Dangerous(h)
	round, _ := graph.Round(h)
	was, wasDangers, wasRound := slices.Clone(edges), slices.Clone(dangers), slices.Clone(round)
	askAll(h)
	soil(h, api.Action{})
	wants(t, "the edges stay", slices.Equal(edges, was), true)
	wants(t, "the dangers stay", slices.Equal(dangers, wasDangers), true)
	wants(t, "the round stays", slices.Equal(round, wasRound), true)
	h = roomy()
	for range 20 {
		again, _ := graph.Edges(h)
		wants(t, "the edges again", slices.Equal(again, was), true)
		again, _ = graph.Round(h)
		wants(t, "the round again", slices.Equal(again, wasRound), true)
	}
}
