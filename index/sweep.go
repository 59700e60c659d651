package index

import (
	"math"
	"slices"

	"vellum/api"
	"vellum/store"
)

// Sweep takes the entries out that no version and no write of their rows has: how many.
func (x *Index) Sweep(s *store.Store) int {
	if !x.given() {
		return 0
	}
	s = orEmpty(s)
	slots := map[int]claim{}
	went := 0
	for _, e := range x.list.Scan(api.Range{Open: true}, false, math.MaxInt) {
		slot := int(e.Value)
		c, again := slots[slot]
		if !again {
			c = x.claimOf(s, slot)
			slots[slot] = c
		}
		if !c.has(e.Key) {
			x.list.Delete(e.Key)
			went++
		}
	}
	return went
}

// claim is which entries a slot's row lays claim to: all that lead to it, or those with some keys, rising.
type claim struct {
	all  bool
	keys []string
}

func (c claim) has(key string) bool {
	if c.all {
		return true
	}
	_, there := slices.BinarySearch(c.keys, key)
	return there
}

// claimOf asks first for the intent: of a row that is settled in between the versions tell all then.
func (x *Index) claimOf(s *store.Store, slot int) claim {
	if s.Intent(slot).Txn != 0 {
		return claim{all: true}
	}
	var keys []string
	for _, row := range rowsOf(s, slot) {
		if key, err := x.key(row); err == api.OK {
			keys = append(keys, key)
		}
	}
	slices.Sort(keys)
	return claim{keys: keys}
}
