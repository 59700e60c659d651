package graph_test

import (
	"testing"

	"vellum/api"
)

const skew = "b1 0, b2 0, r1 x0, r1 y0, r2 x0, r2 y0, w1 x, w2 y, c1 1, c2 2"

// Gr4: who has no snapshot, or one that is not ahead of its commit.
func TestNoSnapshots(t *testing.T) {
	for what, h := range map[string]string{
		"no begin":                          "w1 x, c1 1",
		"one without a begin":               "b1 0, c1 1, c2 2",
		"a snapshot at the commit":          "b1 1, c1 1",
		"a snapshot behind the commit":      "b1 2, c1 1",
		"one of several behind its commit":  "b1 0, b2 9, b3 0, c1 1, c2 2, c3 3",
		"one that would not be of snapshot": "b1 0, w1 x, c1 1, b2 1, r2 x0, c2 2, c3 3",
	} {
		wantsSnapshot(t, what, h, false, api.ErrArg)
		wantsDangers(t, what, h, api.ErrArg)
	}
	wantsSnapshot(t, "nothing", "", true, api.OK)
	wantsSnapshot(t, "those that are not committed", "w1 x, b2 9, w3 x, a3, b4 0, c4 1", true, api.OK)
	wantsSnapshot(t, "just ahead of the commit", "b1 4, c1 5", true, api.OK)
}

// Gr4: what snapshots read.
func TestSnapshotReads(t *testing.T) {
	for _, x := range []struct {
		what, h string
		want    bool
	}{
		{"example 2", skew, true},
		{"example 3: a lost update", "b1 0, b2 0, r1 x0, r2 x0, w1 x, c1 1, w2 x, c2 2", false},
		{"at the snapshot", "b1 0, w1 x, c1 5, b2 5, r2 x1, c2 6", true},
		{"nobody's, at the snapshot", "b1 0, w1 x, c1 5, b2 5, r2 x0, c2 6", false},
		{"nobody's, ahead of the commit", "b1 0, w1 x, c1 5, b2 4, r2 x0, c2 6", true},
		{"what was committed behind it", "b1 0, w1 x, c1 5, b2 4, r2 x1, c2 6", false},
		{"the greatest one up to it", "b1 0, w1 x, c1 1, b2 1, w2 x, c2 2, b3 2, w3 x, c3 3, b4 2, r4 x2, c4 9", true},
		{"an older one", "b1 0, w1 x, c1 1, b2 1, w2 x, c2 2, b3 2, w3 x, c3 3, b4 2, r4 x1, c4 9", false},
		{"a newer one", "b1 0, w1 x, c1 1, b2 1, w2 x, c2 2, b3 2, w3 x, c3 3, b4 2, r4 x3, c4 9", false},
		{"the last write", "b1 0, w1 x, w1 x, c1 1, b2 1, r2 x1.2, c2 2", true},
		{"a write between", "b1 0, w1 x, w1 x, c1 1, b2 1, r2 x1, c2 2", false},
		{"one that is not committed", "w1 x, b2 1, r2 x1, c2 2", false},
		{"by one that is not committed", "b1 0, w1 x, c1 1, b2 1, r2 x0, a2, w3 x, r4 x3", true},
		{"its own", "b1 0, w1 x, c1 1, b2 1, w2 x, r2 x2, s2 a-z x2, c2 2", true},
		{"its own behind what it read wrongly", "b1 0, w1 x, c1 1, b2 1, r2 x0, w2 x, r2 x2, c2 2", false},
		{"a scan", "b1 0, w1 x, c1 1, b2 1, s2 a-z x1, s2 y-, s2 a-x, c2 2", true},
		{"a scan that does not tell", "b1 0, w1 x, c1 1, b2 1, s2 a-z, c2 2", false},
		{"a scan at the range's end", "b1 0, w1 z, c1 1, b2 1, s2 a-z, c2 2", true},
		{"a scan at the range's beginning", "b1 0, w1 a, c1 1, b2 1, s2 a-z, c2 2", false},
		{"a scan that does not tell one of three", "b1 0, w1 a, w1 b, w1 c, c1 1, b2 1, s2 a-z a1 c1, c2 2", false},
		{"a scan that does not tell the last one", "b1 0, w1 a, w1 b, c1 1, b2 1, s2 a-z a1, c2 2", false},
		{"a scan that tells nobody's", "b1 0, w1 b, c1 1, b2 0, s2 a-z b0 c0, c2 2", true},
		{"a scan that tells nobody's where one is", "b1 0, w1 b, c1 1, b2 1, s2 a-z b0, c2 2", false},
		{"a scan ahead of what was committed", "b1 0, w1 x, c1 1, b2 0, s2 a-z, c2 2", true},
		{"a scan that tells what came behind", "b1 0, w1 x, c1 1, b2 0, s2 a-z x1, c2 2", false},
		{"a scan of a write between", "b1 0, w1 x, w1 x, c1 1, b2 1, s2 a-z x1, c2 2", false},
	} {
		wantsSnapshot(t, x.what, x.h, x.want, api.OK)
	}
}

// Gr4: who wrote one item, one behind the other.
func TestSnapshotWrites(t *testing.T) {
	for _, x := range []struct {
		what, h string
		want    bool
	}{
		{"one behind the other", "b1 0, w1 x, c1 3, b2 3, w2 x, c2 4, b3 4, w3 x, c3 9", true},
		{"side by side", "b1 0, w1 x, c1 3, b2 2, w2 x, c2 4", false},
		{"side by side, by the stamps", "b1 3, b2 0, w1 x, w2 x, c2 3, c1 4", true},
		{"side by side, of unlike items", "b1 0, w1 x, c1 3, b2 2, w2 y, c2 4", true},
		{"side by side, one aborted", "b1 0, w1 x, a1, b2 0, w2 x, c2 4", true},
		{"the second one with the last one", "b1 0, w1 x, c1 3, b2 3, w2 x, c2 4, b3 3, w3 x, c3 9", false},
		{"of the last item", "b1 0, b2 0, w1 a, w1 z, w2 b, w2 z, c1 1, c2 2", false},
	} {
		wantsSnapshot(t, x.what, x.h, x.want, api.OK)
	}
}

// Gr5: dangerous structures.
func TestDangerous(t *testing.T) {
	wantsDangers(t, "nothing", "", api.OK)
	wantsDangers(t, "example 2", skew, api.OK, api.Danger{A: 1, B: 2, C: 1})
	wantsDangers(t, "the same, the other one first", "b1 0, b2 0, r1 x0, r1 y0, r2 x0, r2 y0, w1 x, w2 y, c2 1, c1 2", api.OK, api.Danger{A: 2, B: 1, C: 2})
	wantsDangers(t, "by scans", "b1 0, b2 0, s2 c-d, s1 a-z, w2 b, c2 1, w1 c, c1 2", api.OK, api.Danger{A: 2, B: 1, C: 2})
	wantsDangers(t, "one edge", "b1 0, b2 0, r1 x0, w2 x, c2 1, c1 2", api.OK)
	three := "b1 0, b2 0, b3 0, r1 x0, w2 x, r2 y0, w3 y, "
	wantsDangers(t, "the third one first", three+"c3 1, c2 2, c1 3", api.OK, api.Danger{A: 1, B: 2, C: 3})
	wantsDangers(t, "the third one, then the first one", three+"c3 1, c1 2, c2 3", api.OK, api.Danger{A: 1, B: 2, C: 3})
	wantsDangers(t, "the first one first", three+"c1 1, c3 2, c2 3", api.OK)
	wantsDangers(t, "the second one first", three+"c2 1, c3 2, c1 3", api.OK)
	wantsDangers(t, "the third one last", three+"c2 1, c1 2, c3 3", api.OK)
	// Of the first and the third one nothing is asked but who committed first.
	wantsDangers(t, "the third one ahead of the first one", "b2 0, b3 0, w2 x, r2 y0, w3 y, c3 1, b1 1, r1 x0, c2 2, c1 3", api.OK, api.Danger{A: 1, B: 2, C: 3})
	wantsDangers(t, "the first two not side by side", "b2 0, b3 0, w2 x, r2 y0, w3 y, c3 1, c2 2, b1 2, r1 x0, c1 3", api.OK)
	wantsDangers(t, "the first two not side by side, the other way", "b1 0, r1 x0, c1 5, b2 5, b3 0, w2 x, r2 y0, w3 y, c3 6, c2 7", api.OK)
	wantsDangers(t, "the last two not side by side", "b1 0, b2 1, b3 0, r1 x0, w2 x, r2 y0, w3 y, c3 1, c2 2, c1 3", api.OK)
	wantsDangers(t, "the last two just side by side", "b1 0, b2 1, b3 0, r1 x0, w2 x, r2 y0, w3 y, c3 2, c2 3, c1 4", api.OK, api.Danger{A: 1, B: 2, C: 3})
	wantsDangers(t, "other edges", "b1 0, b2 0, b3 0, w1 x, w2 x, r3 x1, c1 1, c2 2, c3 3", api.OK)
	wantsDangers(t, "by a read and a scan, without sense", "b1 0, b2 0, b3 0, w3 y, w2 x, s1 a-z y3, r2 y0, c3 1, c2 2, c1 3", api.OK, api.Danger{A: 1, B: 2, C: 3})
}

// Gr5: by A, then B, then C.
func TestDangersStand(t *testing.T) {
	all := "s1 a-z, s2 a-z, s3 a-z, s10 a-z, w1 a, w2 b, w3 c, w10 d, "
	wantsDangers(t, "all with all", "b10 0, b3 0, b2 0, b1 0, "+all+"c10 1, c2 2, c1 3, c3 4", api.OK,
		api.Danger{A: 1, B: 2, C: 10}, api.Danger{A: 1, B: 3, C: 1}, api.Danger{A: 1, B: 3, C: 2}, api.Danger{A: 1, B: 3, C: 10},
		api.Danger{A: 2, B: 1, C: 2}, api.Danger{A: 2, B: 1, C: 10}, api.Danger{A: 2, B: 3, C: 2}, api.Danger{A: 2, B: 3, C: 10},
		api.Danger{A: 3, B: 1, C: 2}, api.Danger{A: 3, B: 1, C: 10}, api.Danger{A: 3, B: 2, C: 10},
		api.Danger{A: 10, B: 1, C: 10}, api.Danger{A: 10, B: 2, C: 10}, api.Danger{A: 10, B: 3, C: 10})
}
