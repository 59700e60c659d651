package cursor_test

import (
	"fmt"
	"sync"
	"testing"

	"vellum/api"
	"vellum/cursor"
	"vellum/index"
	"vellum/store"
)

// P3: a snapshot tells the same, rising, falling, one by one and all at once, while others write rows and put their entries.
func TestCursorsBesideWriters(t *testing.T) {
	var rows [][]api.Value
	for n := range int64(40) {
		rows = append(rows, pair(n*10, n%5))
	}
	s := filled(t, rows...)
	x := built(t, table(), 0, s)
	v := api.View{Stamp: 1}
	q := api.Scan{Range: all(), Most: many, Where: where(t, table(), "b <> 3")}
	want, _, err := cursor.All(table(), s, x, v, q)
	wants(t, "All", err, api.OK)
	var group sync.WaitGroup
	for txn := 2; txn < 6; txn++ {
		group.Go(func() {
			for round := range int64(30) {
				for slot := txn - 2; slot < 40; slot += 4 {
					row := pair(int64(slot)*10, 5+round%7)
					s.Write(slot, txn, api.Write{Row: row}, 1<<20)
					x.Put(row, slot)
				}
				s.Settle(txn, uint64(2+round))
			}
		})
	}
	faults := make(chan string, 8)
	for reader := range 8 {
		group.Go(func() {
			for range 20 {
				if fault := differs(s, x, v, q, reader%2 == 0, want); fault != "" {
					faults <- fault
					return
				}
			}
		})
	}
	group.Wait()
	close(faults)
	for fault := range faults {
		t.Error(fault)
	}
}

func differs(s *store.Store, x *index.Index, v api.View, q api.Scan, one bool, want []api.Seen) string {
	if !one {
		l, _, err := cursor.All(table(), s, x, v, q)
		if shown(l...) != shown(want...) || err != api.OK {
			return fmt.Sprintf("All: %s, %d, want %s", shown(l...), err, shown(want...))
		}
		return ""
	}
	c, err := cursor.Open(table(), s, x, v, q)
	if err != api.OK {
		return fmt.Sprintf("Open: %d", err)
	}
	l, err := told(c)
	if shown(l...) != shown(want...) || err != api.OK {
		return fmt.Sprintf("Next: %s, %d, want %s", shown(l...), err, shown(want...))
	}
	return ""
}
