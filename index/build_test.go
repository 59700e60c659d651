package index_test

import (
	"testing"

	"vellum/api"
	"vellum/index"
	"vellum/lit"
	"vellum/store"
)

// In2: each version and each write that is not gone has its entry, and those that are gone none.
func TestBuildOfVersionsAndWrites(t *testing.T) {
	s := filled(t, pair(1, 5), pair(2, 6), pair(3, 7))
	written(t, s, 0, 1, api.Write{Row: pair(1, 4)}, 1)
	written(t, s, 1, 1, api.Write{Gone: true}, 1)
	settled(t, s, 1, 2)
	written(t, s, 0, 2, api.Write{Row: pair(1, 3)}, 2)
	written(t, s, 0, 2, api.Write{Level: 1, Gone: true}, 2)
	written(t, s, 0, 2, api.Write{Level: 2, Row: pair(1, 2)}, 2)
	written(t, s, 1, 3, api.Write{Row: pair(2, 9)}, 2)
	finds(t, built(t, table(), 0, s), all(), false, many, 0, 0, 0, 0, 1, 2, 1)
	finds(t, built(t, table(), -1, s), all(), false, many, 0, 1, 2)
	s.Back(2, 0)
	s.Back(3, 0)
	s.Prune(2)
	finds(t, built(t, table(), 0, s), all(), false, many, 0, 2)
}

// In2: of a nil store, and of one without rows, there are no entries.
func TestBuildOfNoRows(t *testing.T) {
	finds(t, built(t, table(), 0, nil), all(), false, many)
	finds(t, built(t, table(), 0, newStore(t, 1)), all(), false, many)
}

// In2: two rows with one key, of one of which the key is gone already, are not beside one another in its index.
func TestBuildOfATakenKey(t *testing.T) {
	s := filled(t, pair(1, 5), pair(1, 6))
	x, err := index.Build(table(), -1, s)
	if x != nil || err != api.ErrTaken {
		t.Errorf("Build: %v, %d", x, err)
	}
	finds(t, built(t, table(), 0, s), all(), false, many, 0, 1)
	written(t, s, 1, 1, api.Write{Row: pair(2, 6)}, 1)
	settled(t, s, 1, 2)
	if x, err = index.Build(table(), -1, s); x != nil || err != api.ErrTaken {
		t.Errorf("Build: %v, %d", x, err)
	}
	s.Prune(2)
	finds(t, built(t, table(), -1, s), all(), false, many, 0, 1)
	added(t, s, 4, pair(1, 1))
	if x, err = index.Build(table(), -1, s); x != nil || err != api.ErrTaken {
		t.Errorf("Build: %v, %d", x, err)
	}
}

// In2: of all that is refused what comes first is told: slot by slot, the versions ahead of the writes, the newest version first, the first write first.
func TestBuildTellsWhatIsRefusedFirst(t *testing.T) {
	short, null, odd, kind := pair(1, 5)[:1], []api.Value{lit.Null(), lit.Int(1)}, []api.Value{lit.Text("\xff"), lit.Int(1)}, []api.Value{lit.Text("x"), lit.Int(1)}
	refuses := func(s *store.Store, want api.Errno) {
		t.Helper()
		for n := -1; n < 1; n++ {
			x, err := index.Build(table(), n, s)
			if x != nil || err != want {
				t.Errorf("Build(%d): %v, %d, want %d", n, x, err, want)
			}
		}
	}
	s := filled(t, pair(1, 5), short)
	refuses(s, api.ErrArg)
	written(t, s, 0, 2, api.Write{Row: pair(1, 6)}, 1)
	written(t, s, 0, 2, api.Write{Level: 1, Row: null}, 1)
	written(t, s, 0, 2, api.Write{Level: 2, Row: odd}, 1)
	refuses(s, api.ErrNull)
	s.Back(2, 1)
	refuses(s, api.ErrArg)
	written(t, s, 0, 2, api.Write{Row: odd}, 1)
	settled(t, s, 2, 2)
	written(t, s, 0, 2, api.Write{Row: kind}, 2)
	settled(t, s, 2, 3)
	refuses(s, api.ErrColumn)
	written(t, s, 0, 2, api.Write{Row: null}, 3)
	refuses(s, api.ErrColumn)
	settled(t, s, 2, 4)
	refuses(s, api.ErrNull)
	s.Prune(4)
	written(t, s, 0, 2, api.Write{Gone: true}, 4)
	settled(t, s, 2, 5)
	s.Prune(5)
	refuses(s, api.ErrArg)
}
