package chain_test

import (
	"math"
	"math/rand"
	"testing"

	"vellum/api"
	"vellum/chain"
)

// sights is which stamps tell all that there is to see of versions: each one's own, and those beside it.
func sights(l []api.Version, more ...uint64) []uint64 {
	stamps := append(more, 0, 1, api.MaxStamp, math.MaxUint64)
	for _, v := range l {
		stamps = append(stamps, v.Stamp-1, v.Stamp, v.Stamp+1)
	}
	return stamps
}

// nothingReadGoes holds a list and what Prune left of it against each other, at all stamps from the floor on.
func nothingReadGoes(t *testing.T, l []api.Version, floor uint64) {
	t.Helper()
	left, gone := chain.Prune(l, floor)
	for _, stamp := range sights(l, floor) {
		if stamp < floor {
			continue
		}
		want, there := chain.See(l, api.Intent{}, 0, stamp)
		if got, ok := chain.See(left, api.Intent{}, 0, stamp); ok != there || !sameRow(got, want) {
			t.Errorf("Prune%s at %d: at %d %s, %v is seen", shown(l), floor, stamp, shownRow(false, got), ok)
		}
	}
	again, none := chain.Prune(left, floor)
	if !sameVersions(again, left) || none != 0 {
		t.Errorf("Prune of Prune%s at %d = %s, %d", shown(l), floor, shown(again), none)
	}
	if len(left)+gone != len(l) || chain.Check(left) != api.OK {
		t.Errorf("Prune%s at %d = %s, %d", shown(l), floor, shown(left), gone)
	}
}

// installedAndPruned holds what is left of an installed list against what is left of one that was pruned ahead of it.
func installedAndPruned(t *testing.T, l []api.Version, v api.Version, floor uint64) {
	t.Helper()
	all, e := chain.Install(l, v)
	if e != api.OK {
		return
	}
	left, _ := chain.Prune(l, floor)
	leftAll, e := chain.Install(left, v)
	if e != api.OK {
		t.Errorf("Install%s of %s = %d", shown(left), shown(versions(v)), e)
	}
	want, _ := chain.Prune(all, floor)
	if got, _ := chain.Prune(leftAll, floor); !sameVersions(got, want) {
		t.Errorf("Install of %s into Prune%s at %d leaves %s, want %s", shown(versions(v)), shown(l), floor, shown(got), shown(want))
	}
}

// Ch6: nothing read goes, of all lists with stamps up to 5, at all floors.
func TestNothingReadGoes(t *testing.T) {
	for _, l := range allVersions(5) {
		for floor := range uint64(8) {
			nothingReadGoes(t, l, floor)
			for stamp := uint64(1); stamp <= 8; stamp++ {
				installedAndPruned(t, l, at(stamp, 99), floor)
				installedAndPruned(t, l, goneAt(stamp), floor)
			}
		}
	}
}

// Ch6, P1: likewise, of versions of all sizes of stamps, with rows of all kinds of values, which stay as they were bit by bit.
func TestNothingReadGoesAnywhere(t *testing.T) {
	r := rand.New(rand.NewSource(8))
	for range 3000 {
		l := randomVersions(r)
		stamps := sights(l)
		floor := stamps[r.Intn(len(stamps))]
		nothingReadGoes(t, l, floor)
		v := api.Version{Stamp: 1, Row: randomRow(r)}
		if len(l) > 0 {
			v.Stamp = l[0].Stamp + 1 + uint64(r.Intn(3))
		}
		installedAndPruned(t, l, v, floor)
		if all, e := chain.Install(l, v); e != api.OK || !sameVersions(all, append(versions(v), l...)) {
			t.Errorf("Install%s of %s = %s, %d", shown(l), shown(versions(v)), shown(all), e)
		}
	}
}

// Ch7: each stamp from the first one on lies in the life of just one version, the one that is seen; none below.
func TestLives(t *testing.T) {
	r := rand.New(rand.NewSource(7))
	lists := allVersions(5)
	for range 1000 {
		lists = append(lists, randomVersions(r))
	}
	for _, l := range lists {
		for _, stamp := range sights(l) {
			in := -1
			for place := range l {
				from, to, e := chain.Life(l, place)
				if e != api.OK || from == 0 || to != 0 && to <= from {
					t.Fatalf("Life%s of %d = %d, %d, %d", shown(l), place, from, to, e)
				}
				if stamp >= from && (to == 0 || stamp < to) {
					if in >= 0 {
						t.Errorf("%s: %d lies in the lives of %d and %d", shown(l), stamp, in, place)
					}
					in = place
				}
			}
			if n := chain.At(l, stamp); n != in {
				t.Errorf("%s: %d lies in the life of %d, and %d is seen", shown(l), stamp, in, n)
			}
		}
	}
}

// Ch3, Ch7: a list changed between two stamps just if another version is seen at the second one.
func TestChangedIsSeen(t *testing.T) {
	for _, l := range allVersions(5) {
		for behind := range uint64(7) {
			for to := behind; to < 8; to++ {
				if chain.Changed(l, behind, to) != (chain.At(l, behind) != chain.At(l, to)) {
					t.Errorf("Changed%s behind %d to %d", shown(l), behind, to)
				}
			}
		}
	}
}

// writes puts some writes whose levels are at least level.
func writes(t *testing.T, r *rand.Rand, in api.Intent, level int) api.Intent {
	for range 1 + r.Intn(5) {
		level += r.Intn(3)
		w := api.Write{Level: level, Gone: r.Intn(3) == 0}
		if !w.Gone {
			w.Row = randomRow(r)
		}
		var e api.Errno
		if in, e = chain.Put(in, w); e != api.OK {
			t.Fatalf("Put on %d = %d", level, e)
		}
	}
	return in
}

// Ch8: behind writes of a level and of ones above it Back of that level tells what there was ahead of them.
func TestBackTellsWhatWas(t *testing.T) {
	r := rand.New(rand.NewSource(9))
	for range 3000 {
		ahead := intent(1 + r.Intn(5))
		want := api.Intent{}
		level := r.Intn(3)
		if r.Intn(4) > 0 {
			ahead = randomIntent(r, ahead.Txn)
			want = ahead
			level += 1 + ahead.Writes[len(ahead.Writes)-1].Level
		}
		behind := writes(t, r, ahead, level)
		if out := chain.Back(behind, level); !sameIntent(out, want) {
			t.Errorf("Back%s to %d = %s, want %s", shownIntent(behind), level, shownIntent(out), shownIntent(want))
		}
	}
}

// Ch8: See sees the same behind Fold as ahead of it, whoever looks, at all stamps; and an intent that may be stays one.
func TestFoldChangesNothingSeen(t *testing.T) {
	r := rand.New(rand.NewSource(10))
	for range 2000 {
		l, in := randomVersions(r), randomIntent(r, 2)
		if r.Intn(10) == 0 {
			in = api.Intent{}
		}
		level := 1 + r.Intn(10)
		out, e := chain.Fold(in, level)
		if e != api.OK || out.Txn != in.Txn || (len(in.Writes) == 0) != (len(out.Writes) == 0) {
			t.Fatalf("Fold%s of %d = %s, %d", shownIntent(in), level, shownIntent(out), e)
		}
		for i, w := range out.Writes {
			if w.Level < 0 || w.Level >= level || i > 0 && w.Level <= out.Writes[i-1].Level {
				t.Errorf("Fold%s of %d = %s", shownIntent(in), level, shownIntent(out))
			}
		}
		for _, txn := range []int{0, 1, 2} {
			for _, stamp := range sights(l) {
				want, there := chain.See(l, in, txn, stamp)
				if got, ok := chain.See(l, out, txn, stamp); ok != there || !sameRow(got, want) {
					t.Errorf("behind Fold%s of %d: %s, %v", shownIntent(in), level, shownRow(false, got), ok)
				}
			}
		}
	}
}
