package graph_test

import (
	"testing"

	"vellum/api"
	"vellum/graph"
)

// Gr3: serial orders.
func TestSerial(t *testing.T) {
	wantsSerial(t, "nothing", "", api.OK)
	wantsSerial(t, "none committed", "b1 0, w1 x, w2 x, a2", api.OK)
	wantsSerial(t, "without edges by numbers", "c3 1, c1 2, c20 3, c2 4", api.OK, 1, 2, 3, 20)
	wantsSerial(t, "by a read", "w2 x, c2 1, r1 x2, c1 2", api.OK, 2, 1)
	wantsSerial(t, "by a write", "w2 x, c2 1, w1 x, c1 2", api.OK, 2, 1)
	wantsSerial(t, "by what was overwritten, against the stamps", "r2 x0, w1 x, c1 1, c2 2", api.OK, 2, 1)
	wantsSerial(t, "by a scan", "s2 a-z, w1 x, c1 1, c2 2", api.OK, 2, 1)
	wantsSerial(t, "the least one that may stand next", "w5 x, c5 1, r1 x5, c1 2, c3 3, w2 y, c2 5, r6 y2, c6 6, c4 7", api.OK, 2, 3, 4, 5, 1, 6)
	wantsSerial(t, "one that waits for two", "w3 x, c3 1, w2 y, c2 2, r1 x3, r1 y2, c1 3", api.OK, 2, 3, 1)
	wantsSerial(t, "one that waits for one by several edges", "w2 x, w2 y, c2 1, r1 x2, r1 y2, w1 x, c1 2", api.OK, 2, 1)
	wantsSerial(t, "without those that are not committed", "w1 x, c1 1, r2 x1, a2, w4 x, r3 x1, c3 2", api.OK, 1, 3)
}

// Gr3: no serial order.
func TestNotSerial(t *testing.T) {
	for what, h := range map[string]string{
		"G1a":              "w1 x, r2 x1, c2 1, a1",
		"G1b":              "w1 x, r2 x1, w1 x, c1 1, c2 2",
		"G1c":              "w1 x, w2 y, r1 y2, r2 x1, c1 1, c2 2",
		"GSingle":          "r1 x0, r2 x0, w1 x, c1 1, w2 x, c2 2",
		"G2Item":           "r1 x0, r1 y0, r2 x0, r2 y0, w1 x, w2 y, c1 1, c2 2",
		"G2":               "s2 c-d, s1 a-z, w2 b, c2 1, w1 c, c1 2",
		"behind others":    "w9 q, c9 1, r1 q9, r1 x0, r1 y0, r2 x0, r2 y0, w1 x, w2 y, c1 2, c2 3, r8 x1, c8 4",
		"a round of three": "r1 x0, r2 y0, r3 z0, w1 z, w2 x, w3 y, c1 1, c2 2, c3 3",
	} {
		wantsSerial(t, what, h, api.ErrRound)
	}
}

// Gr3: a round, where there is one; G1a and G1b are none.
func TestRound(t *testing.T) {
	for what, h := range map[string]string{
		"nothing":       "",
		"G1a":           "w1 x, r2 x1, c2 1, a1",
		"G1b":           "w1 x, r2 x1, w1 x, c1 1, c2 2",
		"a chain":       "w1 x, c1 1, r2 x1, w2 x, c2 2, r3 x2, c3 3",
		"two ways":      "w1 x, w1 y, c1 1, r2 x1, w2 z, r3 y1, c2 2, r3 z2, c3 3",
		"the same edge": "w1 x, r1 x1, c1 1, w2 x, c2 2",
	} {
		l, err := graph.Round(past(h))
		wants(t, what, err, api.OK)
		wants(t, what, drawn(l), "")
	}
	for what, h := range map[string]string{
		"two":                          "r1 x0, r1 y0, r2 x0, r2 y0, w1 x, w2 y, c1 1, c2 2",
		"three":                        "r1 x0, r2 y0, r3 z0, w1 z, w2 x, w3 y, c1 1, c2 2, c3 3",
		"three, the other way":         "r1 x0, r2 y0, r3 z0, w1 y, w2 z, w3 x, c1 1, c2 2, c3 3",
		"behind one that is in none":   "w1 q, c1 1, r2 q1, r2 x0, r3 x0, w3 x, c3 2, w2 x, c2 3",
		"ahead of one that is in none": "r2 x0, r3 x0, w3 x, c3 2, w2 x, c2 3, r1 x2, c1 4",
		"two rounds that share one":    "r1 a0, w2 a, r2 b0, w1 b, r2 c0, w3 c, r3 d0, w2 d, c1 1, c2 2, c3 3",
		"one within another":           "r1 a0, w2 a, r2 b0, w3 b, r3 c0, w4 c, r4 d0, w1 d, r3 e0, w2 e, c1 1, c2 2, c3 3, c4 4",
	} {
		l, err := graph.Round(past(h))
		wants(t, what, err, api.OK)
		all, _ := graph.Edges(past(h))
		if !isRound(all, l) {
			t.Fatalf("%s: no round: %s, of %s", what, drawn(l), drawn(all))
		}
	}
}
