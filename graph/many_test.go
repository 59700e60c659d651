package graph_test

import (
	"fmt"
	"strings"
	"sync"
	"testing"

	"vellum/api"
	"vellum/graph"
)

// nth is an item of a number, in order.
func nth(n int) string { return fmt.Sprintf("%08d", n) }

func scanAll(txn int) api.Action {
	return api.Action{Txn: txn, Kind: api.ActScan, Range: api.Range{Open: true}}
}

func write(txn int, item string) api.Action {
	return api.Action{Txn: txn, Kind: api.ActWrite, Item: item}
}

func commit(txn int, stamp int) api.Action {
	return api.Action{Txn: txn, Kind: api.ActCommit, Stamp: uint64(stamp)}
}

// Gr2: as many edges as may be: each of 1024 scans 2046 items that one other wrote.
func TestManyEdges(t *testing.T) {
	var h []api.Action
	for i := range 2046 {
		h = append(h, write(2000, nth(i)))
	}
	for i := range 1024 {
		h = append(h, scanAll(i+1))
	}
	for i := range 1024 {
		h = append(h, commit(i+1, i+1))
	}
	h = append(h, commit(2000, 1025))
	l, err := graph.Edges(h)
	wants(t, "Edges", err, api.OK)
	wants(t, "how many", len(l), 1024*2046)
	for i, e := range l {
		if e != (api.Edge{From: i/2046 + 1, To: 2000, Kind: api.EdgePW, Item: nth(i % 2046)}) {
			t.Fatalf("edge %d: %v", i, e)
		}
	}
	order, err := graph.Serial(h)
	wants(t, "Serial", err, api.OK)
	wants(t, "the last one", order[1024], 2000)
	p, err := graph.Phenomena(h)
	wants(t, "Phenomena", err, api.OK)
	wants(t, "the phenomena", p, api.Phenomena{})
}

// Gr1, Gr2: one that scans the same items as often as may be, its own and another one's.
func TestManyScans(t *testing.T) {
	var h []api.Action
	for i := range 1000 {
		h = append(h, write(2, "b"+nth(i)), write(1, "a"+nth(i)))
	}
	for range 2000 {
		h = append(h, api.Action{Txn: 1, Kind: api.ActScan, Range: api.Range{Lo: "b", Open: true}})
	}
	h = append(h, commit(1, 1), commit(2, 2))
	l, err := graph.Edges(h)
	wants(t, "Edges", err, api.OK)
	wants(t, "how many", len(l), 1000)
	own := api.Action{Txn: 1, Kind: api.ActScan, Range: api.Range{Hi: "b"}}
	for i := range 1000 {
		own.Seen = append(own.Seen, api.Saw{Item: "a" + nth(i), From: 1, Nth: 1})
	}
	h[4000] = own
	wantsCheck(t, "with all its own", h[:4001], 0, api.OK)
	own.Seen = append(own.Seen[:500:500], own.Seen[501:]...)
	h[4000] = own
	wantsCheck(t, "without one of its own", h[:4001], 4000, api.ErrHistory)
}

// Gr2, Gr5: all of 128 scan all, and write an item each: all edges go to and fro.
func TestAllWithAll(t *testing.T) {
	const n = 128
	var h []api.Action
	for i := range n {
		h = append(h, api.Action{Txn: i + 1, Kind: api.ActBegin}, scanAll(i+1))
	}
	for i := range n {
		h = append(h, write(i+1, nth(i)))
	}
	for i := range n {
		h = append(h, commit(i+1, i+1))
	}
	p, _ := graph.Phenomena(h)
	wants(t, "the phenomena", named(p), "G2")
	ok, _ := graph.Snapshot(h)
	wants(t, "what snapshots give", ok, true)
	l, err := graph.Dangerous(h)
	wants(t, "Dangerous", err, api.OK)
	// A and B may be any two, and C any one below both; or A itself, if it is below B.
	want := n * (n - 1) / 2
	for low := range n {
		want += low * (n - low - 1) * 2
	}
	wants(t, "how many", len(l), want)
	for i := 1; i < len(l); i++ {
		a, b := l[i-1], l[i]
		if a.A > b.A || a.A == b.A && (a.B > b.B || a.B == b.B && a.C >= b.C) {
			t.Fatalf("%v stands ahead of %v", a, b)
		}
	}
}

// Gr2, Gr3: one long round: each but the first one reads what the one ahead of it wrote, and the last one what the first one overwrote.
func TestLongRound(t *testing.T) {
	const n = 1300
	var h []api.Action
	h = append(h, api.Action{Txn: n, Kind: api.ActRead, Item: nth(1)})
	for i := 1; i <= n; i++ {
		if i > 1 {
			h = append(h, api.Action{Txn: i, Kind: api.ActRead, Item: nth(i - 1), From: i - 1, Nth: 1})
		}
		h = append(h, write(i, nth(i)), commit(i, i))
	}
	p, err := graph.Phenomena(h)
	wants(t, "Phenomena", err, api.OK)
	wants(t, "the phenomena", named(p), "GSingle G2Item G2")
	l, _ := graph.Round(h)
	all, _ := graph.Edges(h)
	wants(t, "the round's length", len(l), n)
	wants(t, "a round", isRound(all, l), true)
	h[0].Item = "nobody's"
	order, err := graph.Serial(h)
	wants(t, "Serial", err, api.OK)
	wants(t, "the order's length", len(order), n)
	for i, txn := range order {
		wants(t, "the order", txn, i+1)
	}
}

// Gr2: long ways beside many edges: of each transaction it must be asked whether one comes back to it.
func TestManyWays(t *testing.T) {
	const n = 800
	var h []api.Action
	for i := 1; i <= n; i++ {
		h = append(h, api.Action{Txn: i, Kind: api.ActScan, Range: api.Range{Lo: nth(i + 1), Open: true}})
	}
	for i := 1; i <= n; i++ {
		h = append(h, write(i, nth(i)))
		if i > 1 {
			h = append(h, api.Action{Txn: i, Kind: api.ActRead, Item: nth(i - 1), From: i - 1, Nth: 1})
		}
		h = append(h, commit(i, i))
	}
	p, err := graph.Phenomena(h)
	wants(t, "Phenomena", err, api.OK)
	wants(t, "the phenomena", named(p), "")
	h[n-1].Range.Lo = nth(1)
	h[n-1].Range.Hi, h[n-1].Range.Open = nth(2), false
	p, _ = graph.Phenomena(h)
	wants(t, "the phenomena, if the last one scanned the first item ahead", named(p), "GSingle G2")
}

// Gr1: items of great length that differ at their ends alone.
func TestLongItems(t *testing.T) {
	long := strings.Repeat("x", 1<<20)
	var h []api.Action
	for i := range 20 {
		h = append(h, write(1, long+nth(i)))
	}
	h = append(h, api.Action{Txn: 2, Kind: api.ActScan, Range: api.Range{Lo: long + nth(5), Hi: long + nth(7)}}, commit(2, 1), commit(1, 2))
	l, err := graph.Edges(h)
	wants(t, "Edges", err, api.OK)
	wants(t, "how many", len(l), 2)
	wants(t, "the second one", l[1] == api.Edge{From: 2, To: 1, Kind: api.EdgePW, Item: long + nth(6)}, true)
}

// R4: many may ask at one time.
func TestSideBySide(t *testing.T) {
	h := past(skew)
	var all sync.WaitGroup
	for range 8 {
		all.Go(func() {
			for range 50 {
				if l, err := graph.Dangerous(h); err != api.OK || len(l) != 1 {
					t.Errorf("Dangerous: %v, %d", l, err)
				}
				if p, _ := graph.Phenomena(h); !p.G2Item {
					t.Errorf("Phenomena: %s", named(p))
				}
			}
		})
	}
	all.Wait()
}
