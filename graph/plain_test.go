package graph_test

import (
	"cmp"
	"slices"

	"vellum/api"
	"vellum/code"
)

// The words of the chapter, one by one: all actions ahead are gone through for each question, and rounds are found by trying all.

func plainCheck(h []api.Action) (int, api.Errno) {
	seen := 0
	for _, a := range h {
		if a.Kind == api.ActScan {
			seen += len(a.Seen)
		}
	}
	if len(h) > 4096 || seen > 4096 {
		return 0, api.ErrFull
	}
	for i := range h {
		if !plainMay(h[:i], h[i]) {
			return i, api.ErrHistory
		}
	}
	return 0, api.OK
}

func plainMay(ahead []api.Action, a api.Action) bool {
	if a.Txn < 1 || !plainParts(a) {
		return false
	}
	for _, b := range ahead {
		if b.Txn == a.Txn && (b.Kind == api.ActCommit || b.Kind == api.ActAbort || a.Kind == api.ActBegin) {
			return false
		}
		if a.Kind == api.ActCommit && b.Kind == api.ActCommit && b.Stamp >= a.Stamp {
			return false
		}
	}
	switch a.Kind {
	case api.ActRead:
		return plainRead(ahead, a.Txn, api.Saw{Item: a.Item, From: a.From, Nth: a.Nth})
	case api.ActScan:
		return plainScan(ahead, a)
	case api.ActCommit:
		return a.Stamp >= 1
	}
	return true
}

func plainParts(a api.Action) bool {
	noItem, noVersion, noStamp := a.Item == "", a.From == 0 && a.Nth == 0, a.Stamp == 0
	noScan := a.Range.Lo == "" && a.Range.Hi == "" && !a.Range.Open && len(a.Seen) == 0
	switch a.Kind {
	case api.ActBegin, api.ActCommit:
		return noItem && noVersion && noScan
	case api.ActRead:
		return noScan && noStamp
	case api.ActScan:
		return noItem && noVersion && noStamp
	case api.ActWrite:
		return noVersion && noScan && noStamp
	case api.ActAbort:
		return noItem && noVersion && noScan && noStamp
	}
	return false
}

func plainRead(ahead []api.Action, txn int, s api.Saw) bool {
	if s.From < 0 || s.Nth < 0 || (s.Nth == 0) != (s.From == 0) {
		return false
	}
	if s.From != 0 && writes(ahead, s.From, s.Item) < s.Nth {
		return false
	}
	own := writes(ahead, txn, s.Item)
	return own == 0 || s.From == txn && s.Nth == own
}

func plainScan(ahead []api.Action, a api.Action) bool {
	for i, s := range a.Seen {
		if !plainRead(ahead, a.Txn, s) || !code.Has(a.Range, s.Item) {
			return false
		}
		for _, earlier := range a.Seen[:i] {
			if earlier.Item >= s.Item {
				return false
			}
		}
	}
	for _, b := range ahead {
		if b.Kind == api.ActWrite && b.Txn == a.Txn && code.Has(a.Range, b.Item) {
			if !slices.ContainsFunc(a.Seen, func(s api.Saw) bool { return s.Item == b.Item }) {
				return false
			}
		}
	}
	return true
}

// plainStamps is the stamps of the committed ones.
func plainStamps(h []api.Action) map[int]uint64 {
	stamps := map[int]uint64{}
	for _, a := range h {
		if a.Kind == api.ActCommit {
			stamps[a.Txn] = a.Stamp
		}
	}
	return stamps
}

func plainItems(h []api.Action) []string {
	var l []string
	for _, a := range h {
		if a.Kind == api.ActWrite && !slices.Contains(l, a.Item) {
			l = append(l, a.Item)
		}
	}
	return l
}

// plainVersions is who wrote the versions of an item, behind the first one.
func plainVersions(h []api.Action, item string) []int {
	var l []int
	for _, a := range h {
		if a.Kind == api.ActCommit && writes(h, a.Txn, item) > 0 {
			l = append(l, a.Txn)
		}
	}
	return l
}

// plainSaw is the versions that an action saw, of all items that somebody wrote.
func plainSaw(h []api.Action, a api.Action) []api.Saw {
	switch a.Kind {
	case api.ActRead:
		return []api.Saw{{Item: a.Item, From: a.From, Nth: a.Nth}}
	case api.ActScan:
		l := slices.Clone(a.Seen)
		for _, item := range plainItems(h) {
			if code.Has(a.Range, item) && !slices.ContainsFunc(a.Seen, func(s api.Saw) bool { return s.Item == item }) {
				l = append(l, api.Saw{Item: item})
			}
		}
		return l
	}
	return nil
}

func plainEdges(h []api.Action) []api.Edge {
	stamps := plainStamps(h)
	var l []api.Edge
	add := func(from, to, kind int, item string) {
		e := api.Edge{From: from, To: to, Kind: kind, Item: item}
		if from != to && stamps[from] > 0 && stamps[to] > 0 && !slices.Contains(l, e) {
			l = append(l, e)
		}
	}
	for _, item := range plainItems(h) {
		versions := plainVersions(h, item)
		for i := 1; i < len(versions); i++ {
			add(versions[i-1], versions[i], api.EdgeWW, item)
		}
	}
	for _, a := range h {
		kind := map[int]int{api.ActRead: api.EdgeRW, api.ActScan: api.EdgePW}[a.Kind]
		for _, s := range plainSaw(h, a) {
			add(s.From, a.Txn, api.EdgeWR, s.Item)
			// The first version is nobody's, whose number is 0.
			line := append([]int{0}, plainVersions(h, s.Item)...)
			if i := slices.Index(line, s.From); i >= 0 && i+1 < len(line) {
				add(a.Txn, line[i+1], kind, s.Item)
			}
		}
	}
	slices.SortFunc(l, func(a, b api.Edge) int {
		return cmp.Or(a.From-b.From, a.To-b.To, a.Kind-b.Kind, cmp.Compare(a.Item, b.Item))
	})
	return l
}

// plainRounds hands each round out: its edges' kinds alone.
func plainRounds(l []api.Edge, told func(kinds []int)) {
	var bare []api.Edge
	for _, e := range l {
		e.Item = ""
		if !slices.Contains(bare, e) {
			bare = append(bare, e)
		}
	}
	var on func(first int, way []api.Edge)
	on = func(first int, way []api.Edge) {
		for _, e := range bare {
			if e.From != way[len(way)-1].To || e.From == first {
				continue
			}
			if !slices.ContainsFunc(way, func(w api.Edge) bool { return w.From == e.From }) {
				on(first, append(slices.Clone(way), e))
			}
		}
		if way[len(way)-1].To == first {
			var kinds []int
			for _, e := range way {
				kinds = append(kinds, e.Kind)
			}
			told(kinds)
		}
	}
	for _, e := range bare {
		on(e.From, []api.Edge{e})
	}
}

func plainPhenomena(h []api.Action) api.Phenomena {
	var p api.Phenomena
	stamps := plainStamps(h)
	for _, a := range h {
		for _, s := range plainSaw(h, a) {
			if stamps[a.Txn] == 0 || s.From == 0 {
				continue
			}
			if stamps[s.From] == 0 {
				p.G1a = true
			} else if s.From != a.Txn && s.Nth != writes(h, s.From, s.Item) {
				p.G1b = true
			}
		}
	}
	plainRounds(plainEdges(h), func(kinds []int) {
		counts := map[int]int{}
		for _, k := range kinds {
			counts[k]++
		}
		against := counts[api.EdgeRW] + counts[api.EdgePW]
		p.G0 = p.G0 || counts[api.EdgeWW] == len(kinds)
		p.G1c = p.G1c || against == 0
		p.GSingle = p.GSingle || against == 1
		p.G2Item = p.G2Item || counts[api.EdgeRW] > 0
		p.G2 = p.G2 || against > 0
	})
	return p
}

func plainCommitted(h []api.Action) []int {
	var l []int
	for _, a := range h {
		if a.Kind == api.ActCommit {
			l = append(l, a.Txn)
		}
	}
	slices.Sort(l)
	return l
}

func plainSerial(h []api.Action) ([]int, api.Errno) {
	if p := plainPhenomena(h); p.G1a || p.G1b {
		return nil, api.ErrRound
	}
	edges, left := plainEdges(h), plainCommitted(h)
	var l []int
	for len(left) > 0 {
		i := slices.IndexFunc(left, func(txn int) bool {
			return !slices.ContainsFunc(edges, func(e api.Edge) bool { return e.To == txn && slices.Contains(left, e.From) })
		})
		if i < 0 {
			return nil, api.ErrRound
		}
		l = append(l, left[i])
		left = slices.Delete(left, i, i+1)
	}
	return l, api.OK
}

// plainBegins is the snapshots of the committed ones; false, if one has none that is ahead of its commit.
func plainBegins(h []api.Action) (map[int]uint64, bool) {
	stamps, begins := plainStamps(h), map[int]uint64{}
	for _, a := range h {
		if a.Kind == api.ActBegin && a.Stamp < stamps[a.Txn] {
			begins[a.Txn] = a.Stamp
		}
	}
	return begins, len(begins) == len(stamps)
}

func plainSnapshot(h []api.Action) (bool, api.Errno) {
	stamps := plainStamps(h)
	begins, ok := plainBegins(h)
	if !ok {
		return false, api.ErrArg
	}
	for i, a := range h {
		if stamps[a.Txn] == 0 {
			continue
		}
		for _, s := range plainSaw(h, a) {
			want := api.Saw{Item: s.Item}
			for _, from := range plainVersions(h, s.Item) {
				if stamps[from] <= begins[a.Txn] {
					want = api.Saw{Item: s.Item, From: from, Nth: writes(h, from, s.Item)}
				}
			}
			if writes(h[:i], a.Txn, s.Item) == 0 && s != want {
				return false, api.OK
			}
		}
	}
	for _, item := range plainItems(h) {
		versions := plainVersions(h, item)
		for i, first := range versions {
			for _, second := range versions[i+1:] {
				if stamps[first] > begins[second] {
					return false, api.OK
				}
			}
		}
	}
	return true, api.OK
}

func plainDangerous(h []api.Action) ([]api.Danger, api.Errno) {
	stamps := plainStamps(h)
	begins, ok := plainBegins(h)
	if !ok {
		return nil, api.ErrArg
	}
	edges := plainEdges(h)
	leads := func(a, b int) bool {
		beside := begins[a] < stamps[b] && begins[b] < stamps[a]
		return beside && slices.ContainsFunc(edges, func(e api.Edge) bool {
			return e.From == a && e.To == b && (e.Kind == api.EdgeRW || e.Kind == api.EdgePW)
		})
	}
	var l []api.Danger
	all := plainCommitted(h)
	for _, a := range all {
		for _, b := range all {
			for _, c := range all {
				if leads(a, b) && leads(b, c) && stamps[c] < stamps[b] && (c == a || stamps[c] < stamps[a]) {
					l = append(l, api.Danger{A: a, B: b, C: c})
				}
			}
		}
	}
	return l, api.OK
}
