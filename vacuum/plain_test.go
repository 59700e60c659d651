package vacuum_test

import (
	"math/big"
	"testing"

	"vellum/api"
	layer4 "vellum/row"
	"vellum/txn"
)

// The chapter's words, written anew: version by version, and entry by entry.

// goes tells whether nobody at a stamp, or behind it, can see one of a row's versions: another one stands in its place by then, or it tells that the row is gone, as nothing tells, too.
func goes(l []api.Version, place int, horizon uint64) bool {
	over := place > 0 && l[place-1].Stamp <= horizon
	return over || l[place].Gone && l[place].Stamp <= horizon
}

// stays is the rows of those versions that do not go.
func stays(l []api.Version, horizon uint64) []api.Version {
	var left []api.Version
	for place, v := range l {
		if !goes(l, place, horizon) {
			left = append(left, v)
		}
	}
	return left
}

// hasKey tells whether a version has a key in an index.
func hasKey(t *testing.T, tab api.Table, index int, l []api.Version, key string) bool {
	t.Helper()
	for _, v := range l {
		if v.Gone {
			continue
		}
		k, err := layer4.Key(tab, v.Row)
		if index >= 0 {
			k, err = layer4.Entry(tab, index, v.Row)
		}
		wants(t, "a row's key", err, api.OK)
		if k == key {
			return true
		}
	}
	return false
}

func plainLook(t *testing.T, d *txn.DB) []api.Waste {
	t.Helper()
	var l []api.Waste
	for n, tab := range d.Tables() {
		w := api.Waste{Live: len(rowsAt(t, d, n, d.Frontier()))}
		slots := map[int]api.Held{}
		for _, h := range heldOf(t, d, n) {
			slots[h.Slot] = h
			left := stays(h.Versions, d.Horizon())
			w.Versions += len(h.Versions)
			w.Dead += len(h.Versions) - len(left)
			if len(left) == 0 && h.Intent.Txn == 0 {
				w.Rows++
			}
		}
		for index := -1; index < len(tab.Indexes); index++ {
			hits, err := d.Entries(n, index, all())
			wants(t, "Entries", err, api.OK)
			for _, e := range hits {
				h := slots[e.Slot]
				if h.Intent.Txn == 0 && !hasKey(t, tab, index, stays(h.Versions, d.Horizon()), e.Key) {
					w.Entries++
				}
			}
		}
		l = append(l, w)
	}
	return l
}

func plainDue(l []api.Waste, base, thousandths int) []int {
	var due []int
	for place, w := range l {
		dead := big.NewRat(int64(w.Dead), 1)
		part := new(big.Rat).Mul(big.NewRat(int64(thousandths), 1000), big.NewRat(int64(w.Live), 1))
		if dead.Cmp(part.Add(part, big.NewRat(int64(base), 1))) > 0 {
			due = append(due, place)
		}
	}
	return due
}

func plainHolders(t *testing.T, d *txn.DB) []int {
	t.Helper()
	var l []int
	for _, x := range d.Active() {
		info, err := d.Info(x)
		wants(t, "Info", err, api.OK)
		if info.Level != committed && info.Snapshot == d.Horizon() && d.Horizon() < d.Frontier() {
			l = append(l, x)
		}
	}
	return l
}

func plainOld(t *testing.T, d *txn.DB, age uint64) []int {
	t.Helper()
	var l []int
	for _, x := range d.Active() {
		info, err := d.Info(x)
		wants(t, "Info", err, api.OK)
		var is uint64
		if info.Level != committed {
			is = d.Frontier() - info.Snapshot
		}
		if is >= age {
			l = append(l, x)
		}
	}
	return l
}

func plainRun(t *testing.T, d *txn.DB) api.Pruned {
	t.Helper()
	p, err := d.Prune(d.Horizon())
	wants(t, "Prune", err, api.OK)
	return p
}

func plainClear(t *testing.T, d *txn.DB, age uint64) ([]int, api.Pruned) {
	t.Helper()
	l := plainOld(t, d, age)
	for _, x := range l {
		aborts(t, d, x)
	}
	return l, plainRun(t, d)
}
