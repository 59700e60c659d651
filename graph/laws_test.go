package graph_test

import (
	"slices"
	"testing"

	"vellum/api"
	"vellum/code"
	"vellum/graph"
)

// holds holds what all calls tell of a history against the chapter's words.
func holds(t *testing.T, h []api.Action) {
	t.Helper()
	place, err := graph.Check(h)
	wantPlace, wantErr := plainCheck(h)
	if place != wantPlace || err != wantErr {
		t.Fatalf("Check: %d, error %d, want %d, error %d, of%s", place, err, wantPlace, wantErr, shown(h))
	}
	edges, edgesErr := graph.Edges(h)
	phenomena, phenomenaErr := graph.Phenomena(h)
	round, roundErr := graph.Round(h)
	serial, serialErr := graph.Serial(h)
	snapshot, snapshotErr := graph.Snapshot(h)
	dangers, dangersErr := graph.Dangerous(h)
	if err != api.OK {
		same := edgesErr == err && phenomenaErr == err && roundErr == err && serialErr == err && snapshotErr == err && dangersErr == err
		none := len(edges) == 0 && phenomena == api.Phenomena{} && len(round) == 0 && len(serial) == 0 && !snapshot && len(dangers) == 0
		if !same || !none {
			t.Fatalf("error %d of Check, but others tell something else of%s", err, shown(h))
		}
		return
	}
	all := plainEdges(h)
	if edgesErr != api.OK || !slices.Equal(edges, all) {
		t.Fatalf("Edges: %s, error %d, want %s, of%s", drawn(edges), edgesErr, drawn(all), shown(h))
	}
	p := plainPhenomena(h)
	if phenomenaErr != api.OK || phenomena != p {
		t.Fatalf("Phenomena: %s, error %d, want %s, of%s", named(phenomena), phenomenaErr, named(p), shown(h))
	}
	if there := p.G1c || p.G2; roundErr != api.OK || there != isRound(all, round) || !there && len(round) > 0 {
		t.Fatalf("Round: %s, error %d, of %s", drawn(round), roundErr, drawn(all))
	}
	if want, wantErr := plainSerial(h); serialErr != wantErr || !slices.Equal(serial, want) {
		t.Fatalf("Serial: %v, error %d, want %v, error %d, of%s", serial, serialErr, want, wantErr, shown(h))
	}
	if want, wantErr := plainSnapshot(h); snapshot != want || snapshotErr != wantErr {
		t.Fatalf("Snapshot: %v, error %d, want %v, error %d, of%s", snapshot, snapshotErr, want, wantErr, shown(h))
	}
	if want, wantErr := plainDangerous(h); dangersErr != wantErr || !slices.Equal(dangers, want) {
		t.Fatalf("Dangerous: %v, error %d, want %v, error %d, of%s", dangers, dangersErr, want, wantErr, shown(h))
	}
}

// Gr1 to Gr5: histories without sense, of short and of greater length.
func TestLooseHistories(t *testing.T) {
	counts := map[string]int{}
	for seed := range uint64(6000) {
		w := newWorld(seed)
		h := w.loose(4 + int(seed%40))
		wantsCheck(t, "a history that may be", h, 0, api.OK)
		holds(t, h)
		p, _ := graph.Phenomena(h)
		counts[named(p)]++
		if _, err := graph.Serial(h); err == api.OK {
			counts["serial"]++
		}
	}
	// All phenomena but G0 must have come, one without the others where that may be.
	for _, name := range []string{"", "G1a", "G1b", "G1c", "GSingle G2", "GSingle G2Item G2", "G2", "G2Item G2", "G1c GSingle G2Item G2", "serial"} {
		if counts[name] == 0 {
			t.Errorf("no history was %q: %v", name, counts)
		}
	}
}

// broken is a history in which something was changed, as it may not be most of the time.
func (w world) broken(h []api.Action) []api.Action {
	if len(h) == 0 {
		return h
	}
	i := w.IntN(len(h))
	a := &h[i]
	switch w.IntN(14) {
	case 0:
		a.Kind = w.IntN(9) - 1
	case 1:
		a.Txn = w.IntN(3) - 1
	case 2:
		a.Item = w.item()
	case 3:
		a.From = []int{-1, 0, w.txn()}[w.IntN(3)]
	case 4:
		a.Nth += w.IntN(3) - 1
	case 5:
		a.Range = w.span()
	case 6:
		a.Stamp = w.Uint64N(4)
	case 7:
		j := w.IntN(len(h))
		h[i], h[j] = h[j], h[i]
	case 8:
		return slices.Insert(h, i, h[w.IntN(len(h))])
	case 9:
		return slices.Delete(h, i, i+1)
	default:
		if i = slices.IndexFunc(h, func(a api.Action) bool { return len(a.Seen) > 0 }); i >= 0 {
			w.breakScan(&h[i])
		}
	}
	return h
}

func (w world) breakScan(a *api.Action) {
	i := w.IntN(len(a.Seen))
	switch w.IntN(6) {
	case 0:
		a.Seen = slices.Delete(a.Seen, i, i+1)
	case 1:
		a.Seen = slices.Insert(a.Seen, i, a.Seen[w.IntN(len(a.Seen))])
	case 2:
		a.Seen[i].From = []int{-1, 0, w.txn()}[w.IntN(3)]
	case 3:
		a.Seen[i].Nth += w.IntN(3) - 1
	case 4:
		a.Seen[i].Item = w.item()
	case 5:
		j := w.IntN(len(a.Seen))
		a.Seen[i], a.Seen[j] = a.Seen[j], a.Seen[i]
	}
}

// Gr1: histories in which something was changed.
func TestBrokenHistories(t *testing.T) {
	refused := 0
	for seed := range uint64(20000) {
		w := newWorld(seed)
		h := w.broken(w.loose(20))
		holds(t, h)
		if _, err := graph.Check(h); err == api.ErrHistory {
			refused++
		}
	}
	if refused < 5000 || refused > 19000 {
		t.Fatalf("%d of 20000 were refused", refused)
	}
}

// seenAt is the version of an item that a snapshot sees, or the transaction's own.
func seenAt(h []api.Action, txn int, snapshot uint64, item string) api.Saw {
	if n := writes(h, txn, item); n > 0 {
		return api.Saw{Item: item, From: txn, Nth: n}
	}
	s := api.Saw{Item: item}
	for _, a := range h {
		if n := writes(h, a.Txn, item); a.Kind == api.ActCommit && a.Stamp <= snapshot && n > 0 {
			s = api.Saw{Item: item, From: a.Txn, Nth: n}
		}
	}
	return s
}

// newer tells whether somebody else committed a write of what a transaction wrote behind its snapshot.
func (w world) newer(h []api.Action, txn int, snapshot uint64) bool {
	return slices.ContainsFunc(h, func(a api.Action) bool {
		return a.Kind == api.ActCommit && a.Stamp > snapshot && slices.ContainsFunc(w.items, func(item string) bool {
			return writes(h, txn, item) > 0 && writes(h, a.Txn, item) > 0
		})
	})
}

// snapshots is a history as transactions with snapshots make it, few at a time; the first ones that commit win.
func (w world) snapshots(most int) []api.Action {
	var h []api.Action
	begins := map[int]uint64{}
	var active []int
	waiting := []int{5, 3, 8, 1 << 40, 2, 1, 9}
	for range most {
		if len(waiting) > 0 && len(active) < 3 {
			txn, last := waiting[0], lastStamp(h)
			active, waiting = append(active, txn), waiting[1:]
			begins[txn] = last - min(last, w.Uint64N(2))
			h = append(h, api.Action{Txn: txn, Kind: api.ActBegin, Stamp: begins[txn]})
		}
		if len(active) == 0 {
			break
		}
		txn := active[w.IntN(len(active))]
		h = append(h, w.stepAt(h, txn, begins[txn]))
		active = slices.DeleteFunc(active, func(txn int) bool { return decided(h, txn) })
	}
	return h
}

// stepAt is a next action of a transaction with a snapshot.
func (w world) stepAt(h []api.Action, txn int, snapshot uint64) api.Action {
	switch w.IntN(7) {
	case 0, 1:
		s := seenAt(h, txn, snapshot, w.item())
		return api.Action{Txn: txn, Kind: api.ActRead, Item: s.Item, From: s.From, Nth: s.Nth}
	case 2:
		return w.scanAt(h, txn, snapshot)
	case 3, 4:
		return api.Action{Txn: txn, Kind: api.ActWrite, Item: w.item()}
	}
	if w.newer(h, txn, snapshot) {
		return api.Action{Txn: txn, Kind: api.ActAbort}
	}
	return w.end(h, txn)
}

// scanAt is a scan that tells what a snapshot sees, now and then a first version too.
func (w world) scanAt(h []api.Action, txn int, snapshot uint64) api.Action {
	a := api.Action{Txn: txn, Kind: api.ActScan, Range: w.span()}
	for _, item := range w.items {
		s := seenAt(h, txn, snapshot, item)
		if code.Has(a.Range, item) && (s.From != 0 || w.IntN(4) == 0) {
			a.Seen = append(a.Seen, s)
		}
	}
	return a
}

// Gr8: what snapshots give, with a round, has a dangerous structure, and none of the other phenomena.
func TestSnapshotHistories(t *testing.T) {
	rounds, dangers := 0, 0
	for seed := range uint64(6000) {
		w := newWorld(seed)
		h := w.snapshots(10 + int(seed%60))
		holds(t, h)
		if ok, err := graph.Snapshot(h); !ok || err != api.OK {
			t.Fatalf("Snapshot: %v, %d, of%s", ok, err, shown(h))
		}
		p, _ := graph.Phenomena(h)
		if p.G0 || p.G1a || p.G1b || p.G1c || p.GSingle {
			t.Fatalf("%s in what snapshots give:%s", named(p), shown(h))
		}
		round, _ := graph.Round(h)
		danger, _ := graph.Dangerous(h)
		if len(round) > 0 && len(danger) == 0 {
			t.Fatalf("a round %s without a dangerous structure:%s", drawn(round), shown(h))
		}
		rounds += min(1, len(round))
		dangers += min(1, len(danger))
	}
	if rounds < 100 || dangers <= rounds || dangers > 5000 {
		t.Fatalf("%d rounds, %d with dangerous structures", rounds, dangers)
	}
}

// any is some version of an item that a transaction may read, whoever wrote it.
func (w world) any(h []api.Action, txn int, item string) api.Saw {
	l := []api.Saw{{Item: item}}
	for i, a := range h {
		if a.Kind == api.ActWrite && a.Item == item {
			l = append(l, api.Saw{Item: item, From: a.Txn, Nth: writes(h[:i+1], a.Txn, item)})
		}
	}
	if n := writes(h, txn, item); n > 0 {
		return api.Saw{Item: item, From: txn, Nth: n}
	}
	return l[w.IntN(len(l))]
}

// nearly is what snapshots give, with a snapshot, or a version that was read, changed.
func (w world) nearly(h []api.Action) []api.Action {
	if len(h) == 0 {
		return h
	}
	i := w.IntN(len(h))
	a := &h[i]
	switch {
	case a.Kind == api.ActBegin:
		a.Stamp += 3 - min(a.Stamp+3, w.Uint64N(6))
	case a.Kind == api.ActRead:
		s := w.any(h[:i], a.Txn, a.Item)
		a.From, a.Nth = s.From, s.Nth
	case len(a.Seen) > 0:
		j := w.IntN(len(a.Seen))
		if a.Seen[j] = w.any(h[:i], a.Txn, a.Seen[j].Item); w.IntN(2) == 0 {
			a.Seen = slices.Delete(a.Seen, j, j+1)
		}
	}
	return h
}

// Gr4, Gr5: what snapshots give, with something changed.
func TestNearlySnapshots(t *testing.T) {
	counts := map[bool]int{}
	for seed := range uint64(10000) {
		w := newWorld(seed)
		h := w.snapshots(60)
		for range 1 + w.IntN(8) {
			h = w.nearly(h)
		}
		holds(t, h)
		if ok, err := graph.Snapshot(h); err == api.OK {
			counts[ok]++
		}
	}
	if counts[true] < 500 || counts[false] < 500 {
		t.Fatalf("%d are of snapshots, %d are not", counts[true], counts[false])
	}
}

// Gr6: who has a serial order reads what it would have read in that order.
func TestSerialHistories(t *testing.T) {
	ran := 0
	for seed := range uint64(6000) {
		w := newWorld(seed)
		h := w.loose(14)
		if seed%2 == 0 {
			h = w.snapshots(40)
		}
		order, err := graph.Serial(h)
		if err == api.OK && len(order) > 1 {
			runs(t, h, order)
			ran++
		}
	}
	if ran < 500 {
		t.Fatalf("%d had an order", ran)
	}
}

// runs does the actions of transactions one behind the other, and holds what they read against what they would read so.
func runs(t *testing.T, h []api.Action, order []int) {
	t.Helper()
	now := map[string]api.Saw{}
	for _, txn := range order {
		for _, a := range h {
			if a.Txn != txn {
				continue
			}
			if s := now[a.Item]; a.Kind == api.ActWrite && s.From == txn {
				now[a.Item] = api.Saw{From: txn, Nth: s.Nth + 1}
			} else if a.Kind == api.ActWrite {
				now[a.Item] = api.Saw{From: txn, Nth: 1}
			}
			for _, s := range plainSaw(h, a) {
				if there := now[s.Item]; there.From != s.From || there.Nth != s.Nth {
					t.Fatalf("in the order %v %d reads %v of %q, want %v, of%s", order, txn, there, s.Item, s, shown(h))
				}
			}
		}
	}
}

// Gr7: which phenomena are others, too.
func TestPhenomenaAreOthers(t *testing.T) {
	for seed := range uint64(6000) {
		h := newWorld(seed).loose(30)
		p, _ := graph.Phenomena(h)
		if p.G0 && !p.G1c || p.GSingle && !p.G2 || p.G2Item && !p.G2 {
			t.Fatalf("the phenomena %s of%s", named(p), shown(h))
		}
		round, _ := graph.Round(h)
		wants(t, "a round", len(round) > 0, p.G1c || p.G2)
	}
}
