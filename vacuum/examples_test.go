package vacuum_test

import (
	"testing"

	"vellum/api"
)

// The chapter's example 1.
func TestExampleOfLooks(t *testing.T) {
	d := made(t, textT)
	done(t, d, func(x int) { inserts(t, d, x, 1, 0) })
	reader := begin(t, d, snapshot)
	done(t, d, func(x int) { updates(t, d, x, 1, 1, 0) })
	done(t, d, func(x int) { updates(t, d, x, 1, 1, 0) })
	looks(t, d, api.Waste{Live: 1, Versions: 3})
	holders(t, d, reader)
	commits(t, d, reader)
	looks(t, d, api.Waste{Live: 1, Versions: 3, Dead: 2})
	holders(t, d)
}

// The chapter's example 2.
func TestExampleOfDue(t *testing.T) {
	due(t, []api.Waste{{Live: 100, Dead: 71}}, 50, 200, 0)
	due(t, []api.Waste{{Live: 100, Dead: 70}}, 50, 200)
}

// DOC.md's example 6: behind a Run with nobody at an older snapshot nobody may begin at one.
func TestExampleOfOldSnapshots(t *testing.T) {
	d := thrice(t)
	reader := beginAt(t, d, 1)
	gets(t, d, reader, 1, "1 1")
	aborts(t, d, beginAt(t, d, 0))
	runs(t, d, api.Pruned{})
	gets(t, d, beginAt(t, d, 1), 1, "1 1")
	_, err := d.BeginAt(0)
	wants(t, "BeginAt below the floor", err, api.ErrLow)
	clears(t, d, 1, api.Pruned{Versions: 2, Entries: 2}, reader, reader+2)
	_, err = d.BeginAt(2)
	wants(t, "BeginAt below the floor", err, api.ErrLow)
	gets(t, d, beginAt(t, d, 3), 1, "1 3")
}
