package txn_test

import (
	"testing"

	"vellum/api"
)

// The chapter's first example: who comes second is refused at once.
func TestExampleOfTwoWriters(t *testing.T) {
	d := made(t)
	wants(t, "the first number", begin(t, d, snapshot), 1)
	inserts(t, d, 1, pair(1, 5))
	wants(t, "the second number", begin(t, d, snapshot), 2)
	gets(t, d, 2, 1, "")
	wants(t, "Insert beside it", d.Insert(2, 0, pair(1, 6)), api.ErrBusy)
	commits(t, d, 1, 1)
	wants(t, "Insert behind its commit", d.Insert(2, 0, pair(1, 6)), api.ErrNewer)
	wants(t, "Insert by one that begins now", d.Insert(begin(t, d, snapshot), 0, pair(1, 6)), api.ErrExists)
}

// The second one: write skew.
func TestExampleOfWriteSkew(t *testing.T) {
	for level, want := range map[int]api.Errno{committed: api.OK, snapshot: api.OK, serial: api.ErrSerial} {
		d := two(t)
		x, y := begin(t, d, level), begin(t, d, level)
		for _, n := range []int{x, y} {
			gets(t, d, n, 1, "1 0")
			gets(t, d, n, 2, "2 0")
		}
		updates(t, d, x, 1, pair(1, 1))
		updates(t, d, y, 2, pair(2, 1))
		commits(t, d, x, 2)
		if want != api.OK {
			refusedAt(t, d, y, want)
			continue
		}
		commits(t, d, y, 3)
	}
}

// The third one: a phantom.
func TestExampleOfAPhantom(t *testing.T) {
	for b, want := range map[int64]api.Errno{2: api.OK, 3: api.ErrSerial, 5: api.ErrSerial, 7: api.OK} {
		d := two(t)
		x, y := begin(t, d, serial), begin(t, d, snapshot)
		sees(t, d, x, api.Scan{Index: 0, Range: upTo(3, 7), Most: many}, "")
		updates(t, d, x, 1, pair(1, 1))
		inserts(t, d, y, pair(9, b))
		commits(t, d, y, 2)
		if want != api.OK {
			refusedAt(t, d, x, want)
			continue
		}
		commits(t, d, x, 3)
	}
}

// The document's third example, by calls: the row is free again behind the commit.
func TestExampleOfTwoSnapshots(t *testing.T) {
	d := two(t)
	x, y := begin(t, d, snapshot), begin(t, d, snapshot)
	updates(t, d, x, 1, pair(1, 5))
	wants(t, "Update beside it", d.Update(y, 0, key(1), pair(1, 6)), api.ErrBusy)
	commits(t, d, x, 2)
	aborts(t, d, y)
	y = begin(t, d, snapshot)
	updates(t, d, y, 1, pair(1, 6))
	commits(t, d, y, 3)
	rowsAt(t, d, 1, "1 0, 2 0")
	rowsAt(t, d, 2, "1 5, 2 0")
	rowsAt(t, d, 3, "1 6, 2 0")
}
