package chain_test

import (
	"math"
	"slices"
	"testing"

	"vellum/api"
	"vellum/chain"
	"vellum/lit"
)

// roomy is a row with room behind its end, in which something lies.
func roomy(n int64) []api.Value {
	return []api.Value{lit.Int(n), lit.Text("x"), lit.Int(-n), lit.Int(77)}[:2]
}

// roomyVersions is versions, two of which share one row, with room behind their end.
func roomyVersions() []api.Version {
	shared := roomy(1)
	return versions(
		api.Version{Stamp: 9, Row: roomy(2)}, api.Version{Stamp: 8, Row: shared}, api.Version{Stamp: 7, Gone: true, Row: roomy(5)[:0]},
		api.Version{Stamp: 4, Row: shared}, at(3, 66), at(2, 67))[:4]
}

// roomyIntent is an intent, two writes of which share one row, with room behind its end.
func roomyIntent() api.Intent {
	shared := roomy(3)
	return intent(3, []api.Write{
		{Level: 0, Row: shared}, {Level: 1, Gone: true, Row: roomy(6)[:0]}, {Level: 2, Row: roomy(4)}, {Level: 5, Row: shared},
		on(6, 68), on(7, 69),
	}[:4]...)
}

// heldRow, heldVersions and heldIntent are copies of all that an argument's memory holds, with the room behind the ends.
func heldRow(row []api.Value) []api.Value { return slices.Clone(row[:cap(row)]) }

func heldVersions(l []api.Version) []api.Version {
	l = slices.Clone(l[:cap(l)])
	for i := range l {
		l[i].Row = heldRow(l[i].Row)
	}
	return l
}

func heldIntent(in api.Intent) api.Intent {
	in.Writes = slices.Clone(in.Writes[:cap(in.Writes)])
	for i := range in.Writes {
		in.Writes[i].Row = heldRow(in.Writes[i].Row)
	}
	return in
}

// soilRow, soilVersions and soilIntent write into all of an answer's memory, with the room behind the ends.
func soilRow(row []api.Value) {
	row = row[:cap(row)]
	for i := range row {
		row[i] = lit.Text("soiled")
	}
}

func soilVersions(l []api.Version) {
	for i := range l {
		soilRow(l[i].Row)
	}
	l = l[:cap(l)]
	for i := range l {
		l[i] = api.Version{Stamp: 1234}
	}
}

func soilIntent(in api.Intent) {
	for i := range in.Writes {
		soilRow(in.Writes[i].Row)
	}
	l := in.Writes[:cap(in.Writes)]
	for i := range l {
		l[i] = api.Write{Level: 1234}
	}
}

// rowsApart tells whether rows share no memory: each is marked, and all marks are there at the end.
func rowsApart(rows [][]api.Value) bool {
	for i, row := range rows {
		for k := range row[:cap(row)] {
			row[:cap(row)][k] = lit.Int(int64(i))
		}
	}
	for i, row := range rows {
		for _, v := range row[:cap(row)] {
			if v.N != int64(i) {
				return false
			}
		}
	}
	return true
}

// R3: what is handed in is not changed, by the call or by who writes into its answer; and the other way round.
func TestVersionsShareNothing(t *testing.T) {
	for _, call := range []func(l []api.Version, v api.Version) []api.Version{
		func(l []api.Version, v api.Version) []api.Version { out, _ := chain.Install(l, v); return out },
		func(l []api.Version, v api.Version) []api.Version { out, _ := chain.Install(nil, v); return out },
		func(l []api.Version, v api.Version) []api.Version { out, _ := chain.Prune(l, 0); return out },
		func(l []api.Version, v api.Version) []api.Version { out, _ := chain.Prune(l, 5); return out },
		func(l []api.Version, v api.Version) []api.Version { out, _ := chain.Prune(l, 20); return out },
	} {
		l := roomyVersions()
		v := api.Version{Stamp: 12, Row: l[1].Row} // its row is one of those that are there
		was := heldVersions(l)
		out, other := call(l, v), call(l, v)
		want := heldVersions(other)
		soilVersions(out)
		if !sameVersions(heldVersions(l), was) || !sameVersions(heldVersions(other), want) {
			t.Errorf("%s, was %s, behind what was written into an answer", shown(l[:cap(l)]), shown(was))
		}
		soilVersions(l)
		if !sameVersions(heldVersions(other), want) {
			t.Errorf("an answer is %s, was %s, behind what was written into an argument", shown(other), shown(want))
		}
		var rows [][]api.Value
		for _, v := range other {
			rows = append(rows, v.Row)
		}
		if !rowsApart(rows) {
			t.Error("two rows of an answer share memory")
		}
	}
}

func TestIntentsShareNothing(t *testing.T) {
	put := func(in api.Intent, w api.Write) api.Intent { out, _ := chain.Put(in, w); return out }
	for _, call := range []func(in api.Intent) api.Intent{
		func(in api.Intent) api.Intent { return put(in, api.Write{Level: 5, Row: in.Writes[0].Row}) },
		func(in api.Intent) api.Intent { return put(in, api.Write{Level: 8, Row: in.Writes[0].Row}) },
		func(in api.Intent) api.Intent { return put(intent(3), in.Writes[2]) },
		func(in api.Intent) api.Intent { return chain.Back(in, 2) },
		func(in api.Intent) api.Intent { return chain.Back(in, 9) },
		func(in api.Intent) api.Intent { out, _ := chain.Fold(in, 1); return out },
		func(in api.Intent) api.Intent { out, _ := chain.Fold(in, 3); return out },
		func(in api.Intent) api.Intent { out, _ := chain.Fold(in, 4); return out },
		func(in api.Intent) api.Intent { out, _ := chain.Fold(in, 9); return out },
	} {
		in := roomyIntent()
		was := heldIntent(in)
		out, other := call(in), call(in)
		want := heldIntent(other)
		soilIntent(out)
		if !sameIntent(heldIntent(in), was) || !sameIntent(heldIntent(other), want) {
			t.Errorf("%s, was %s, behind what was written into an answer", shownIntent(in), shownIntent(was))
		}
		soilIntent(in)
		if !sameIntent(heldIntent(other), want) {
			t.Errorf("an answer is %s, was %s, behind what was written into an argument", shownIntent(other), shownIntent(want))
		}
		var rows [][]api.Value
		for _, w := range other.Writes {
			rows = append(rows, w.Row)
		}
		if !rowsApart(rows) {
			t.Error("two rows of an answer share memory")
		}
	}
}

func TestSeeSharesNothing(t *testing.T) {
	for _, txn := range []int{0, 3} {
		l, in := roomyVersions(), roomyIntent()
		was, wasIn := heldVersions(l), heldIntent(in)
		got, there := chain.See(l, in, txn, 9)
		other, _ := chain.See(l, in, txn, 9)
		if !there || len(got) != 2 {
			t.Fatalf("See = %v, %v", got, there)
		}
		want := slices.Clone(other)
		soilRow(got)
		if !sameVersions(heldVersions(l), was) || !sameIntent(heldIntent(in), wasIn) || !sameRow(other, want) {
			t.Error("what See told shares memory")
		}
		soilVersions(l)
		soilIntent(in)
		if !sameRow(other, want) {
			t.Error("what See told shares memory with what was handed in")
		}
	}
}

// R1: whatever is handed in, each call ends and changes nothing of it.
func TestBrokenOnesEnd(t *testing.T) {
	stamps := []uint64{0, 1, 3, api.MaxStamp, api.MaxStamp + 1, math.MaxUint64}
	for _, l := range brokenVersions() {
		was := heldVersions(l)
		chain.Check(l)
		for _, stamp := range stamps {
			chain.At(l, stamp)
			chain.Prune(l, stamp)
			chain.Install(l, at(stamp, 1))
			chain.Changed(l, stamp, 3)
			chain.Changed(l, 3, stamp)
			chain.See(l, intent(1, on(0, 1)), 1, stamp)
			chain.See(l, intent(1, on(0, 1)), 2, stamp)
		}
		for place := -2; place < 5; place++ {
			chain.Life(l, place)
		}
		if !sameVersions(heldVersions(l), was) {
			t.Errorf("%s has become %s", shown(was), shown(l))
		}
	}
	for _, in := range brokenIntents() {
		was := heldIntent(in)
		for _, level := range []int{math.MinInt, -1, 0, 1, 2, math.MaxInt} {
			chain.Put(in, on(level, 1))
			chain.Put(in, api.Write{Level: level, Gone: true, Row: row(1)})
			chain.Back(in, level)
			chain.Fold(in, level)
			chain.See(nil, in, level, 5)
			chain.See(versions(at(3, 1)), in, in.Txn, 5)
		}
		if !sameIntent(heldIntent(in), was) {
			t.Errorf("%s has become %s", shownIntent(was), shownIntent(in))
		}
	}
}

// R2, R3: an empty list and none are the same.
func TestEmptyAndNone(t *testing.T) {
	empty := []api.Version{}
	if chain.Check(empty) != api.OK || chain.At(empty, 5) != -1 || chain.Changed(empty, 0, 9) {
		t.Error("an empty list is not as none")
	}
	if left, n := chain.Prune(empty, 5); len(left) != 0 || n != 0 {
		t.Errorf("Prune of an empty list = %s, %d", shown(left), n)
	}
	in := api.Intent{Writes: []api.Write{}}
	if out := chain.Back(in, 1); out.Txn != 0 || len(out.Writes) != 0 {
		t.Errorf("Back = %s", shownIntent(out))
	}
	if out, e := chain.Fold(in, 1); e != api.OK || out.Txn != 0 || len(out.Writes) != 0 {
		t.Errorf("Fold = %s, %d", shownIntent(out), e)
	}
}
