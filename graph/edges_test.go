package graph_test

import (
	"testing"

	"vellum/api"
	"vellum/graph"
)

// Gr2: edges of writes.
func TestOverwrites(t *testing.T) {
	wantsEdges(t, "nothing", "", "")
	wantsEdges(t, "one alone", "w1 x, w1 x, r1 x1.2, c1 1", "")
	wantsEdges(t, "one behind the other", "w1 x, c1 1, w2 x, c2 2, w3 x, c3 3", "1 2 WW x, 2 3 WW x")
	wantsEdges(t, "by stamps, not by writes", "w1 x, w2 x, w3 x, w1 x, c3 1, c1 2, c2 3", "1 2 WW x, 3 1 WW x")
	wantsEdges(t, "several items", "w1 y, w1 x, w2 x, w2 y, w2 y, c1 1, c2 2", "1 2 WW x, 1 2 WW y")
	wantsEdges(t, "without those that are not committed", "w1 x, w2 x, w3 x, w4 x, c1 1, a2, c4 2", "1 4 WW x")
}

// Gr2: edges of reads.
func TestReads(t *testing.T) {
	wantsEdges(t, "another one's", "w1 x, c1 1, r2 x1, r2 x1, c2 2", "1 2 WR x")
	wantsEdges(t, "another one's that is not the last", "w1 x, r2 x1, w1 x, c1 1, c2 2", "1 2 WR x")
	wantsEdges(t, "ahead of its commit", "w1 x, r2 x1, c2 1, c1 2", "1 2 WR x")
	wantsEdges(t, "its own", "w1 x, r1 x1, c1 1", "")
	wantsEdges(t, "one that is not committed", "w1 x, r2 x1, c2 1, w3 x, c3 2", "")
	wantsEdges(t, "by one that is not committed", "w1 x, c1 1, r2 x1, w3 x, c3 2, a2, r4 x3", "1 3 WW x")
	wantsEdges(t, "overwritten", "w1 x, c1 1, r2 x1, c2 2, w3 x, c3 3, w4 x, c4 4", "1 2 WR x, 1 3 WW x, 2 3 RW x, 3 4 WW x")
	wantsEdges(t, "one that is not the last, overwritten", "w1 x, r2 x1, w1 x, c1 1, c2 2, w3 x, c3 3", "1 2 WR x, 1 3 WW x, 2 3 RW x")
	wantsEdges(t, "nobody's", "r1 x0, r1 y0, w2 x, c2 1, w3 x, c3 2, c1 3", "1 2 RW x, 2 3 WW x")
	wantsEdges(t, "nobody's, that an aborted one overwrote", "r1 x0, w2 x, a2, c1 1", "")
	wantsEdges(t, "overwritten by itself", "r1 x0, w1 x, c1 1, w2 x, c2 2", "1 2 WW x")
	wantsEdges(t, "its own, overwritten", "w1 x, r1 x1, c1 1, w2 x, c2 2", "1 2 WW x, 1 2 RW x")
	wantsEdges(t, "its own that is not the last, overwritten", "w1 x, r1 x1, w1 x, c1 1, w2 x, c2 2", "1 2 WW x, 1 2 RW x")
	wantsEdges(t, "two versions", "r1 x0, w2 x, c2 1, r1 x2, c1 2, w3 x, c3 3", "1 2 RW x, 1 3 RW x, 2 1 WR x, 2 3 WW x")
}

// Gr2: edges of scans.
func TestScans(t *testing.T) {
	wantsEdges(t, "another one's", "w1 x, c1 1, s2 a-z x1, c2 2", "1 2 WR x")
	wantsEdges(t, "another one's, overwritten", "w1 x, c1 1, s2 a-z x1, c2 2, w3 x, c3 3", "1 2 WR x, 1 3 WW x, 2 3 PW x")
	wantsEdges(t, "unseen", "w1 b, w1 x, w1 z, w1 a, c1 1, s2 b-z, c2 2", "2 1 PW b, 2 1 PW x")
	wantsEdges(t, "unseen, onwards", "w1 b, w1 x, w1 z, w1 a, c1 1, s2 c-, c2 2", "2 1 PW x, 2 1 PW z")
	wantsEdges(t, "some unseen", "w1 a, w1 b, w1 c, w1 d, w1 e, c1 1, s2 a- b1 d0, c2 2", "1 2 WR b, 2 1 PW a, 2 1 PW c, 2 1 PW d, 2 1 PW e")
	wantsEdges(t, "seen that nobody wrote", "w1 a, w1 c, w1 e, c1 1, s2 a- b0 c1 d0, c2 2", "1 2 WR c, 2 1 PW a, 2 1 PW e")
	wantsEdges(t, "by the first one that wrote", "w1 x, c1 1, w2 x, c2 2, s3 a-z, c3 3", "1 2 WW x, 3 1 PW x")
	wantsEdges(t, "its own behind it", "s1 a-z, w1 x, c1 1, w2 x, c2 2", "1 2 WW x")
	wantsEdges(t, "its own, overwritten", "w1 x, s1 a-z x1, c1 1, w2 x, c2 2", "1 2 WW x, 1 2 PW x")
	wantsEdges(t, "one that is not committed", "w1 x, s2 a-z x1, c2 1, w3 x, c3 2", "")
	wantsEdges(t, "by one that is not committed", "s1 a-z, w2 x, c2 1", "")
	wantsEdges(t, "read too", "s1 a-z, r1 x0, s1 x-, w2 x, c2 1, c1 2", "1 2 RW x, 1 2 PW x")
	wantsEdges(t, "an empty range", "s1 z-a, s1 x-x, w2 x, c2 1, c1 2", "")
	wantsEdges(t, "unseen, then seen", "s1 a-z, w2 x, c2 1, s1 a-z x2, c1 2, w3 x, c3 3", "1 2 PW x, 1 3 PW x, 2 1 WR x, 2 3 WW x")
}

// Gr2: by From, To, Kind and Item.
func TestEdgesStand(t *testing.T) {
	wantsEdges(t, "by all parts",
		"r10 b0, r10 a0, s10 -, r2 c0, w2 a, w2 b, c2 1, w10 c, r10 b2, r10 a2, c10 2, w3 b, w3 a, w3 c, c3 3",
		"2 3 WW a, 2 3 WW b, 2 10 WR a, 2 10 WR b, 2 10 RW c, 10 2 RW a, 10 2 RW b, 10 2 PW a, 10 2 PW b, 10 3 WW c, 10 3 RW a, 10 3 RW b")
	h := []api.Action{
		{Txn: 1, Kind: api.ActScan, Range: api.Range{Open: true}},
		{Txn: 2, Kind: api.ActWrite, Item: "\xff"}, {Txn: 2, Kind: api.ActWrite, Item: "a\x00"}, {Txn: 2, Kind: api.ActWrite}, {Txn: 2, Kind: api.ActWrite, Item: "a"},
		{Txn: 2, Kind: api.ActCommit, Stamp: 1}, {Txn: 1, Kind: api.ActCommit, Stamp: 2},
	}
	l, err := graph.Edges(h)
	wants(t, "by bytes", err, api.OK)
	wants(t, "by bytes", drawn(l), "1 2 PW , 1 2 PW a, 1 2 PW a\x00, 1 2 PW \xff")
}

// Gr2: the chapter's examples, and each phenomenon with and without what makes it.
func TestPhenomena(t *testing.T) {
	for _, x := range []struct{ what, h, want string }{
		{"nothing", "", ""},
		{"example 1: an aborted one's", "w1 x, r2 x1, c2 1, a1", "G1a"},
		{"example 1: one between", "w1 x, r2 x1, w1 x, c1 1, c2 2", "G1b"},
		{"example 2: write skew", "r1 x0, r1 y0, r2 x0, r2 y0, w1 x, w2 y, c1 1, c2 2", "G2Item G2"},
		{"example 3: a lost update", "r1 x0, r2 x0, w1 x, c1 1, w2 x, c2 2", "GSingle G2Item G2"},
		{"example 4: phantoms", "s2 c-d, s1 a-z, w2 b, c2 1, w1 c, c1 2", "G2"},
		{"an active one's", "w1 x, r2 x1, c2 1", "G1a"},
		{"an aborted one's, seen", "w1 x, s2 a-z x1, c2 1, a1", "G1a"},
		{"an aborted one's, by one that is not committed", "w1 x, r2 x1, a1, a2", ""},
		{"an aborted one's that is not the last", "w1 x, r2 x1, w1 x, a1, c2 1", "G1a"},
		{"one between, seen", "w1 x, s2 a-z x1, w1 x, c1 1, c2 2", "G1b"},
		{"one between, by one that is not committed", "w1 x, r2 x1, w1 x, c1 1, a2", ""},
		{"one between of its own", "w1 x, r1 x1, w1 x, c1 1", ""},
		{"the last one of several", "w1 x, w1 x, r2 x1.2, c1 1, c2 2", ""},
		{"the last one, and another item's later write", "w1 x, r2 x1, w1 y, w1 y, c1 1, c2 2", ""},
		{"both", "w1 x, w3 y, r2 x1, r2 y3, w1 x, c1 1, c2 2", "G1a G1b"},
		{"each read the other one's", "w1 x, w2 y, r1 y2, r2 x1, c1 1, c2 2", "G1c"},
		{"read ahead of the other one's commit, and overwritten", "w1 x, w1 y, w2 y, r1 y1, r1 x1, r2 x1, c2 1, c1 2", "G1c"},
		{"three in a round of reads", "w1 x, w2 y, w3 z, r2 x1, r3 y2, r1 z3, c1 1, c2 2, c3 3", "G1c"},
		{"a read ahead of a commit, and one behind it", "r1 y0, w2 x, w2 y, c2 1, r1 x2, c1 2", "GSingle G2Item G2"},
		{"the same, first by a scan", "s1 y-z, w2 x, w2 y, c2 1, r1 x2, c1 2", "GSingle G2"},
		{"a round with one of each", "r1 y0, w1 x, s2 x-y, w2 y, c1 1, c2 2", "G2Item G2"},
		{"a scan's round with a read beside it", "s1 a-z, r1 b0, w2 b, c2 1, w3 b, c3 2, c1 3", ""},
		{"a read outside of the scan's round", "r4 a0, w1 a, s2 c-d, s1 a-z a1, w2 b, c2 1, w1 c, c1 2, c4 3", "G2"},
		{"two rounds", "s1 a-b, s2 b-c, w1 b, w2 a, c1 1, c2 2, w3 x, w4 y, r3 y4, r4 x3, c3 3, c4 4", "G1c G2"},
		{"a round through three", "r1 x0, w2 x, c2 1, r3 x2, w3 y, c3 2, r1 y3, c1 3", "GSingle G2Item G2"},
		{"serial", "r1 x0, w1 x, c1 1, r2 x1, w2 x, c2 2, r3 x2, s3 a-z x2, c3 3", ""},
	} {
		wantsPhenomena(t, x.what, x.h, x.want)
	}
}

// Gr2: the edges of the examples.
func TestExamples(t *testing.T) {
	wantsEdges(t, "example 2", "r1 x0, r1 y0, r2 x0, r2 y0, w1 x, w2 y, c1 1, c2 2", "1 2 RW y, 2 1 RW x")
	wantsEdges(t, "example 3", "r1 x0, r2 x0, w1 x, c1 1, w2 x, c2 2", "1 2 WW x, 2 1 RW x")
	wantsEdges(t, "example 4", "s2 c-d, s1 a-z, w2 b, c2 1, w1 c, c1 2", "1 2 PW b, 2 1 PW c")
}

// Gr2: versions stand by stamps, so writes alone make no round.
func TestWritesAlone(t *testing.T) {
	wantsPhenomena(t, "writes that cross", "w1 x, w2 y, w2 x, w1 y, c2 1, c1 2", "")
	wantsEdges(t, "writes that cross", "w1 x, w2 y, w2 x, w1 y, c2 1, c1 2", "2 1 WW x, 2 1 WW y")
}
