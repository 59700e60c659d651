package graph_test

import (
	"math"
	"testing"

	"vellum/api"
	"vellum/graph"
)

// Gr1: histories that may be.
func TestMayBe(t *testing.T) {
	for what, h := range map[string]string{
		"nothing":                              "",
		"a begin alone":                        "b1 9",
		"no begin":                             "w1 x, c1 1",
		"an abort alone":                       "a1",
		"nobody's version":                     "r1 x0",
		"another one's, active":                "w1 x, r2 x1",
		"another one's, aborted":               "w1 x, a1, r2 x1",
		"another one's, not the last":          "w1 x, w1 x, w1 x, r2 x1.2, r2 x1, r2 x1.3",
		"nobody's, though others wrote":        "w1 x, c1 1, r2 x0, s2 a-z, s2 a-z x0",
		"its own last one":                     "w1 x, r1 x1, w1 x, r1 x1.2",
		"its own by a scan":                    "w1 x, s1 a-z x1, w1 b, w1 x, s1 a-z b1 x1.2, s1 b-x b1, s1 x- x1.2",
		"its own outside of the range":         "w1 x, s1 a-x, s1 y-",
		"another one's ahead of its own write": "w2 x, r1 x2, w1 x, r1 x1",
		"an empty range":                       "w1 x, s1 z-a, s1 x-x",
		"commits out of the order of numbers":  "c3 1, c1 2, c2 7",
		"a snapshot behind its commit":         "b1 9, c1 1",
	} {
		wantsCheck(t, what, past(h), 0, api.OK)
	}
	zero := []api.Action{{Txn: 1, Kind: api.ActScan, Seen: []api.Saw{}}, {Txn: 1, Kind: api.ActRead, Seen: []api.Saw{}}, {Txn: 1, Kind: api.ActWrite}}
	wantsCheck(t, "the empty item, and empty lists", zero, 0, api.OK)
	open := []api.Action{{Txn: 1, Kind: api.ActScan, Range: api.Range{Lo: "a", Hi: "a", Open: true}, Seen: []api.Saw{{Item: "b"}}}}
	wantsCheck(t, "an open range's Hi", open, 0, api.OK)
	great := []api.Action{{Txn: math.MaxInt, Kind: api.ActBegin, Stamp: math.MaxUint64}, {Txn: math.MaxInt, Kind: api.ActCommit, Stamp: math.MaxUint64}}
	wantsCheck(t, "great numbers", great, 0, api.OK)
}

// Gr1: the last action of each of these may not be.
func TestMayNotBe(t *testing.T) {
	for what, h := range map[string]string{
		"a begin behind another action":           "w1 x, b1 0",
		"two begins":                              "b1 0, b1 0",
		"a read behind a commit":                  "c1 1, r1 x0",
		"a write behind an abort":                 "a1, w1 x",
		"a scan behind a commit":                  "c1 1, s1 a-z",
		"two commits":                             "c1 1, c1 2",
		"a commit behind an abort":                "a1, c1 2",
		"an abort behind a commit":                "c1 1, a1",
		"a begin behind a commit":                 "c1 1, b1 1",
		"a version that nobody wrote":             "r1 x2",
		"one of another item":                     "w2 y, r1 x2",
		"one that is written later":               "w2 x, r1 x2, r1 x2.2",
		"its own that it did not write":           "r1 x1",
		"a nought that is somebody's":             "w2 x, r1 x2.0",
		"a number that is nobody's":               "w2 x, r1 x0.1",
		"another one's behind its own write":      "w2 x, w1 x, r1 x2",
		"nobody's behind its own write":           "w1 x, r1 x0",
		"its own, but not the last":               "w1 x, w1 x, r1 x1",
		"its own behind the last":                 "w1 x, r1 x1.2",
		"a scan without its own":                  "w1 x, s1 a-z",
		"a scan without one of its own":           "w1 x, w1 y, s1 a-z y1",
		"a scan with another one's for its own":   "w2 x, w1 x, s1 a-z x2",
		"a scan with its own, but not the last":   "w1 x, w1 x, s1 a-z x1",
		"a scan with nobody's for its own":        "w1 x, s1 a-z x0",
		"an item seen below the range":            "s1 b-z a0",
		"an item seen at the range's end":         "s1 b-z z0",
		"an item seen in an empty range":          "s1 x-x x0",
		"items that do not rise":                  "s1 a- c0 b0",
		"an item seen twice":                      "s1 a- b0 b0",
		"a seen version that nobody wrote":        "s1 a- b2",
		"a seen nought that is somebody's":        "w2 b, s1 a- b2.0",
		"a seen number that is nobody's":          "w2 b, s1 a- b0.1",
		"a commit at 0":                           "c1 0",
		"a commit at another one's stamp":         "c1 3, c2 3",
		"a commit below another one's stamp":      "c1 3, c2 2",
		"a commit below one far ahead":            "c1 3, c2 5, a3, c4 4",
		"a transaction 0":                         "w0 x",
		"a transaction below 0":                   "w-1 x",
		"one's own version, behind another write": "w1 x, r1 x1, w1 x, w2 x, r1 x1",
	} {
		l := past(h)
		wantsCheck(t, what, l, len(l)-1, api.ErrHistory)
		wantsCheck(t, what+", and more", append(l, past("w9 x, r9 x0, c9 9, w0 x")...), len(l)-1, api.ErrHistory)
		wantsCheck(t, what+", behind others", append(past("b7 0, w8 q, r7 q8"), l...), len(l)+2, api.ErrHistory)
	}
	wantsCheck(t, "a negative version", []api.Action{{Txn: 1, Kind: api.ActRead, Item: "x", From: -1, Nth: -1}}, 0, api.ErrHistory)
	wantsCheck(t, "a negative number", append(past("w2 x"), api.Action{Txn: 1, Kind: api.ActRead, Item: "x", From: 2, Nth: -1}), 1, api.ErrHistory)
	wantsCheck(t, "a negative number of nobody", []api.Action{{Txn: 1, Kind: api.ActRead, Item: "x", Nth: -1}}, 0, api.ErrHistory)
	wantsCheck(t, "a great number", append(past("w2 x"), api.Action{Txn: 1, Kind: api.ActRead, Item: "x", From: 2, Nth: math.MaxInt}), 1, api.ErrHistory)
	wantsCheck(t, "a seen negative one", []api.Action{{Txn: 1, Kind: api.ActScan, Range: api.Range{Open: true}, Seen: []api.Saw{{From: -1, Nth: 1}}}}, 0, api.ErrHistory)
}

// Gr1: an action of no kind, and each part that a kind has not.
func TestParts(t *testing.T) {
	for _, kind := range []int{-1, 0, 7, math.MaxInt, math.MinInt} {
		wantsCheck(t, "no kind", []api.Action{{Txn: 1, Kind: kind}}, 0, api.ErrHistory)
	}
	parts := map[string]func(*api.Action){
		"Item":  func(a *api.Action) { a.Item = "x" },
		"From":  func(a *api.Action) { a.From, a.Nth = 1, 0 },
		"Nth":   func(a *api.Action) { a.From, a.Nth = 0, 1 },
		"Lo":    func(a *api.Action) { a.Range.Lo = "x" },
		"Hi":    func(a *api.Action) { a.Range.Hi = "x" },
		"Open":  func(a *api.Action) { a.Range.Open = true },
		"Seen":  func(a *api.Action) { a.Range.Open, a.Seen = a.Kind == api.ActScan, []api.Saw{{}} },
		"Stamp": func(a *api.Action) { a.Stamp = 1 },
	}
	has := map[int]map[string]bool{
		api.ActBegin:  {"Stamp": true},
		api.ActRead:   {"Item": true},
		api.ActScan:   {"Lo": true, "Hi": true, "Open": true, "Seen": true},
		api.ActWrite:  {"Item": true},
		api.ActCommit: {"Stamp": true},
		api.ActAbort:  {},
	}
	for kind, own := range has {
		for part, set := range parts {
			a := api.Action{Txn: 1, Kind: kind}
			if kind == api.ActCommit {
				a.Stamp = 1
			}
			if set(&a); own[part] {
				wantsCheck(t, part, []api.Action{a}, 0, api.OK)
			} else {
				wantsCheck(t, part, []api.Action{a}, 0, api.ErrHistory)
			}
		}
	}
}

// wantsAll holds what all calls but Check refuse.
func wantsAll(t *testing.T, what string, h []api.Action, err api.Errno) {
	t.Helper()
	edges, got := graph.Edges(h)
	wants(t, what+": Edges", got, err)
	wants(t, what+": edges", len(edges), 0)
	phenomena, got := graph.Phenomena(h)
	wants(t, what+": Phenomena", got, err)
	wants(t, what+": the phenomena", phenomena, api.Phenomena{})
	round, got := graph.Round(h)
	wants(t, what+": Round", got, err)
	wants(t, what+": the round", len(round), 0)
	serial, got := graph.Serial(h)
	wants(t, what+": Serial", got, err)
	wants(t, what+": the order", len(serial), 0)
	snapshot, got := graph.Snapshot(h)
	wants(t, what+": Snapshot", got, err)
	wants(t, what+": what snapshots give", snapshot, false)
	dangers, got := graph.Dangerous(h)
	wants(t, what+": Dangerous", got, err)
	wants(t, what+": dangers", len(dangers), 0)
}

// Gr1: all other calls refuse what Check does, whatever else they would.
func TestOthersRefuse(t *testing.T) {
	// Without its last action it would have rounds, and no begins.
	bad := past("r1 x0, r2 x0, w1 x, c1 1, w2 x, c2 2, c3 1")
	wantsCheck(t, "a commit too late", bad, 6, api.ErrHistory)
	wantsAll(t, "a commit too late", bad, api.ErrHistory)
	long := make([]api.Action, 4097)
	wantsAll(t, "too long", long, api.ErrFull)
}

// Gr1: as many actions, and as many seen, as may be, and one more.
func TestFull(t *testing.T) {
	h := make([]api.Action, 4096)
	for i := range h {
		h[i] = api.Action{Txn: i + 1, Kind: api.ActCommit, Stamp: uint64(i + 1)}
	}
	wantsCheck(t, "4096 actions", h, 0, api.OK)
	wantsCheck(t, "4097 actions", append(h, h[0]), 0, api.ErrFull)
	wantsCheck(t, "4097 that may not be", make([]api.Action, 4097), 0, api.ErrFull)
	wantsCheck(t, "4096 that may not be", make([]api.Action, 4096), 0, api.ErrHistory)

	seen := make([]api.Saw, 4097)
	for i := range seen {
		seen[i].Item = nth(i)
	}
	scan := func(from, to int) api.Action {
		return api.Action{Txn: 1, Kind: api.ActScan, Range: api.Range{Open: true}, Seen: seen[from:to]}
	}
	wantsCheck(t, "4096 seen", []api.Action{scan(0, 4096)}, 0, api.OK)
	wantsCheck(t, "4097 seen", []api.Action{scan(0, 4097)}, 0, api.ErrFull)
	wantsCheck(t, "4096 seen by two", []api.Action{scan(0, 4000), scan(0, 96)}, 0, api.OK)
	wantsCheck(t, "4097 seen by two", []api.Action{scan(0, 4000), scan(0, 97)}, 0, api.ErrFull)
	wantsCheck(t, "4097 seen, behind one that may not be", []api.Action{{}, scan(0, 4097)}, 0, api.ErrFull)
	// What no scan has is not counted: it may not be.
	read := scan(0, 4097)
	read.Kind = api.ActRead
	wantsCheck(t, "4097 seen by a read", []api.Action{scan(0, 1), read}, 1, api.ErrHistory)
}
