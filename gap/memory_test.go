package gap_test

import (
	"slices"
	"testing"

	"vellum/api"
	"vellum/gap"
)

// R3: what is handed in is not changed, nor the room behind its end; and what becomes of it later changes nothing.
func TestHoldsAreNotKept(t *testing.T) {
	g, p := gap.New(), newPlain()
	room := append(alone(upTo("c", "d"), upTo("a", "b")), shared(upTo("b", "c"), upTo("x", "y"), onwards("q"))...)
	was := slices.Clone(room)
	take(t, g, p, room[:3])
	if !slices.Equal(room, was) {
		t.Fatalf("Take left %v of %v", room, was)
	}
	for i := range room {
		room[i] = api.Hold{Range: onwards(""), Alone: true}
	}
	for _, l := range [][]api.Hold{alone(upTo("a", "aa")), shared(upTo("b", "c")), alone(upTo("b", "c")), shared(upTo("d", "z")), alone(upTo("x", "y"))} {
		take(t, g, p, l)
	}
	shows(t, g, p)
}

// R3: answers are memory of their own, with the room behind their ends.
func TestAnswersShareNothing(t *testing.T) {
	g, p := gap.New(), newPlain()
	for range 9 {
		take(t, g, p, alone(onwards("")))
	}
	give(t, g, p, 4)
	for range 3 {
		l, _ := g.Ahead(9)
		other, _ := g.Ahead(9)
		tickets, more := g.Tickets(), g.Tickets()
		for _, answer := range [][]uint64{l, tickets} {
			answer = answer[:cap(answer)]
			for i := range answer {
				answer[i] = 1 << 40
			}
		}
		if want := []uint64{1, 2, 3, 5, 6, 7, 8}; !slices.Equal(other, want) || !slices.Equal(more, append(want, 9)) {
			t.Fatalf("Ahead %v, Tickets %v", other, more)
		}
		shows(t, g, p)
	}
}

// R3: the same of a crowd: lists that share memory, with room behind their ends, stay as they were; the turns of each are memory of their own.
func TestCrowdSharesNothing(t *testing.T) {
	room := append(alone(upTo("b", "c"), upTo("a", "b")), shared(onwards("x"), onwards("a"))...)
	was := slices.Clone(room)
	l := [][]api.Hold{room[:2], room[1:3], room[:0], room[:2]}
	turns := crowd(t, l[:3], 20)
	if !slices.Equal(room, was) || len(l[3]) != 2 {
		t.Fatalf("Crowd left %v of %v", room, was)
	}
	kept := slices.Clone(turns[1])
	for _, i := range []int{0, 2} {
		whole := turns[i][:cap(turns[i])]
		clear(whole)
	}
	if !slices.Equal(turns[1], kept) {
		t.Fatalf("turns share memory: %v, want %v", turns[1], kept)
	}
}
