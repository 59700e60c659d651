package graph_test

import (
	"fmt"
	"math/rand/v2"
	"slices"
	"strconv"
	"strings"
	"testing"

	"vellum/api"
	"vellum/code"
	"vellum/graph"
)

func wants[T comparable](t *testing.T, what string, got, want T) {
	t.Helper()
	if got != want {
		t.Fatalf("%s: %v, want %v", what, got, want)
	}
}

func number(s string) int {
	n, err := strconv.Atoi(s)
	if err != nil {
		panic(err)
	}
	return n
}

// past is a history in the chapter's short form: "b1 0, r1 x0, w1 x, w1 x, r2 x1.2, s2 a-c b1, s2 a-, c1 5, a2".
// A version is an item of one letter, whose write it is, and the how manieth, if not the first one.
func past(text string) []api.Action {
	var h []api.Action
	for step := range strings.SplitSeq(text, ",") {
		if f := strings.Fields(step); len(f) > 0 {
			h = append(h, action(f[0][0], number(f[0][1:]), f[1:]))
		}
	}
	return h
}

func action(kind byte, txn int, parts []string) api.Action {
	a := api.Action{Txn: txn}
	switch kind {
	case 'b', 'c':
		a.Kind, a.Stamp = api.ActBegin, uint64(number(parts[0]))
		if kind == 'c' {
			a.Kind = api.ActCommit
		}
	case 'r':
		s := version(parts[0])
		a.Kind, a.Item, a.From, a.Nth = api.ActRead, s.Item, s.From, s.Nth
	case 's':
		lo, hi, _ := strings.Cut(parts[0], "-")
		a.Kind, a.Range = api.ActScan, api.Range{Lo: lo, Hi: hi, Open: hi == ""}
		for _, p := range parts[1:] {
			a.Seen = append(a.Seen, version(p))
		}
	case 'w':
		a.Kind, a.Item = api.ActWrite, parts[0]
	case 'a':
		a.Kind = api.ActAbort
	default:
		panic(kind)
	}
	return a
}

func version(s string) api.Saw {
	from, nth, more := strings.Cut(s[1:], ".")
	v := api.Saw{Item: s[:1], From: number(from)}
	if v.From != 0 {
		v.Nth = 1
	}
	if more {
		v.Nth = number(nth)
	}
	return v
}

// shown is a history in the short form, with all parts of each action.
func shown(h []api.Action) string {
	var text strings.Builder
	for i, a := range h {
		fmt.Fprintf(&text, "\n%d: %c%d %q from %d nth %d %q-%q %v seen %v stamp %d", i, "?brswca??????"[max(0, min(a.Kind, 7))], a.Txn, a.Item, a.From, a.Nth, a.Range.Lo, a.Range.Hi, a.Range.Open, a.Seen, a.Stamp)
	}
	return text.String()
}

// drawn is edges in a short form: "1 2 WW x, 2 1 RW x".
func drawn(l []api.Edge) string {
	var text []string
	for _, e := range l {
		text = append(text, fmt.Sprintf("%d %d %s %s", e.From, e.To, [...]string{"?", "WW", "WR", "RW", "PW"}[e.Kind], e.Item))
	}
	return strings.Join(text, ", ")
}

func wantsEdges(t *testing.T, what, h, want string) {
	t.Helper()
	got, err := graph.Edges(past(h))
	wants(t, what+": Edges", err, api.OK)
	wants(t, what+": edges", drawn(got), want)
}

// named is which phenomena there are: "G1b GSingle".
func named(p api.Phenomena) string {
	var l []string
	for _, x := range []struct {
		name string
		is   bool
	}{{"G0", p.G0}, {"G1a", p.G1a}, {"G1b", p.G1b}, {"G1c", p.G1c}, {"GSingle", p.GSingle}, {"G2Item", p.G2Item}, {"G2", p.G2}} {
		if x.is {
			l = append(l, x.name)
		}
	}
	return strings.Join(l, " ")
}

func wantsPhenomena(t *testing.T, what, h, want string) {
	t.Helper()
	got, err := graph.Phenomena(past(h))
	wants(t, what+": Phenomena", err, api.OK)
	wants(t, what+": the phenomena", named(got), want)
}

func wantsSerial(t *testing.T, what, h string, err api.Errno, want ...int) {
	t.Helper()
	got, gotErr := graph.Serial(past(h))
	if gotErr != err || !slices.Equal(got, want) {
		t.Fatalf("%s: Serial: %v, error %d, want %v, error %d", what, got, gotErr, want, err)
	}
}

func wantsSnapshot(t *testing.T, what, h string, want bool, err api.Errno) {
	t.Helper()
	got, gotErr := graph.Snapshot(past(h))
	if got != want || gotErr != err {
		t.Fatalf("%s: Snapshot: %v, error %d, want %v, error %d", what, got, gotErr, want, err)
	}
}

func wantsDangers(t *testing.T, what, h string, err api.Errno, want ...api.Danger) {
	t.Helper()
	got, gotErr := graph.Dangerous(past(h))
	if gotErr != err || !slices.Equal(got, want) {
		t.Fatalf("%s: Dangerous: %v, error %d, want %v, error %d", what, got, gotErr, want, err)
	}
}

func wantsCheck(t *testing.T, what string, h []api.Action, place int, err api.Errno) {
	t.Helper()
	got, gotErr := graph.Check(h)
	if got != place || gotErr != err {
		t.Fatalf("%s: Check: %d, error %d, want %d, error %d", what, got, gotErr, place, err)
	}
}

// isRound tells whether edges of a graph are a round.
func isRound(all, l []api.Edge) bool {
	begun := map[int]struct{}{}
	for i, e := range l {
		if _, twice := begun[e.From]; twice || !slices.Contains(all, e) || e.To != l[(i+1)%len(l)].From {
			return false
		}
		begun[e.From] = struct{}{}
	}
	return len(l) > 0
}

// world is the items and transactions of which random histories are made: few of them, so that they meet.
type world struct {
	*rand.Rand
	items []string
	txns  []int
}

func newWorld(seed uint64) world {
	r := rand.New(rand.NewPCG(seed, 19))
	items := []string{"", "a", "a\x00", "b", "\xff"}
	txns := []int{7, 1, 1 << 62, 2, 12}
	return world{r, items[:2+r.IntN(4)], txns[:2+r.IntN(4)]}
}

func (w world) item() string { return w.items[w.IntN(len(w.items))] }

func (w world) txn() int { return w.txns[w.IntN(len(w.txns))] }

// span is a random range: without keys, of one key, and open with an Hi among them.
func (w world) span() api.Range {
	return api.Range{Lo: w.item(), Hi: w.item() + []string{"", "\x00", "z"}[w.IntN(3)], Open: w.IntN(3) == 0}
}

// writes is how many times a transaction wrote an item.
func writes(h []api.Action, txn int, item string) int {
	n := 0
	for _, a := range h {
		if a.Kind == api.ActWrite && a.Txn == txn && a.Item == item {
			n++
		}
	}
	return n
}

// decided tells whether a transaction has ended.
func decided(h []api.Action, txn int) bool {
	return slices.ContainsFunc(h, func(a api.Action) bool {
		return a.Txn == txn && (a.Kind == api.ActCommit || a.Kind == api.ActAbort)
	})
}

// lastStamp is that of the last commit.
func lastStamp(h []api.Action) uint64 {
	last := uint64(0)
	for _, a := range h {
		if a.Kind == api.ActCommit {
			last = a.Stamp
		}
	}
	return last
}

// some is a version of an item that a transaction may read: mostly a late one.
func (w world) some(h []api.Action, txn int, item string) api.Saw {
	if n := writes(h, txn, item); n > 0 {
		return api.Saw{Item: item, From: txn, Nth: n}
	}
	from := w.txn()
	n := writes(h, from, item)
	if n == 0 {
		return api.Saw{Item: item}
	}
	nth := n
	if w.IntN(6) == 0 {
		nth = 1 + w.IntN(n)
	}
	return api.Saw{Item: item, From: from, Nth: nth}
}

// scan is a scan that may be, with versions of most items of its range.
func (w world) scan(h []api.Action, txn int) api.Action {
	a := api.Action{Txn: txn, Kind: api.ActScan, Range: w.span()}
	for _, item := range w.items {
		if code.Has(a.Range, item) && (w.IntN(2) == 0 || writes(h, txn, item) > 0) {
			a.Seen = append(a.Seen, w.some(h, txn, item))
		}
	}
	return a
}

// loose is a history that may be, without other sense: versions of anybody are read.
func (w world) loose(most int) []api.Action {
	var h []api.Action
	if w.IntN(2) == 0 {
		for _, txn := range w.txns {
			h = append(h, api.Action{Txn: txn, Kind: api.ActBegin, Stamp: w.Uint64N(4)})
		}
	}
	for range w.IntN(most + 1) {
		txn := w.txn()
		if decided(h, txn) {
			continue
		}
		switch w.IntN(12) {
		case 0, 1, 2, 3:
			s := w.some(h, txn, w.item())
			h = append(h, api.Action{Txn: txn, Kind: api.ActRead, Item: s.Item, From: s.From, Nth: s.Nth})
		case 4, 5:
			h = append(h, w.scan(h, txn))
		case 6, 7, 8, 9:
			h = append(h, api.Action{Txn: txn, Kind: api.ActWrite, Item: w.item()})
		default:
			h = append(h, w.end(h, txn))
		}
	}
	for _, txn := range w.txns {
		if !decided(h, txn) && w.IntN(6) > 0 {
			h = append(h, w.end(h, txn))
		}
	}
	return h
}

// end is mostly a commit.
func (w world) end(h []api.Action, txn int) api.Action {
	if w.IntN(8) == 0 {
		return api.Action{Txn: txn, Kind: api.ActAbort}
	}
	return api.Action{Txn: txn, Kind: api.ActCommit, Stamp: lastStamp(h) + 1 + w.Uint64N(2)}
}
