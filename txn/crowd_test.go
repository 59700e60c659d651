package txn_test

import (
	"fmt"
	"sync"
	"testing"

	"vellum/api"
	"vellum/graph"
	"vellum/txn"
)

// together lets so many goroutines do something side by side, and waits for all.
func together(n int, do func(i int)) {
	var every sync.WaitGroup
	for i := range n {
		every.Add(1)
		go func() {
			defer every.Done()
			do(i)
		}()
	}
	every.Wait()
}

// accounts is a database with so many rows, each with 100 in b, at the stamp 1.
func accounts(t *testing.T, n int) *txn.DB {
	t.Helper()
	var rows [][]api.Value
	for i := range n {
		rows = append(rows, pair(int64(i), 100))
	}
	return filled(t, rows...)
}

// moves moves 1 from one row to another, if nothing is in its way.
func moves(d *txn.DB, level int, from, to int64) (uint64, api.Errno) {
	x, err := d.Begin(level)
	if err != api.OK {
		return 0, err
	}
	for k, more := range map[int64]int64{from: -1, to: 1} {
		row, _, err := d.Get(x, 0, key(k))
		if err == api.OK {
			err = d.Update(x, 0, key(k), pair(k, row[1].N+more))
		}
		if err != api.OK {
			d.Abort(x)
			return 0, err
		}
	}
	return d.Commit(x)
}

// The document's tenth example: whoever moves, again and again, the sum is what it was; in each snapshot, too.
func TestMovesSideBySide(t *testing.T) {
	for _, level := range []int{snapshot, serial} {
		d := accounts(t, 6)
		var all, readers sync.WaitGroup
		stop := make(chan struct{})
		for range 2 {
			readers.Add(1)
			go func() {
				defer readers.Done()
				for {
					select {
					case <-stop:
						return
					default:
						sumIs(t, d, 600)
					}
				}
			}()
		}
		const each = 100
		for g := range 10 {
			all.Add(1)
			go func() {
				defer all.Done()
				c := &chance{uint64(g)}
				for done := 0; done < each; {
					from := int64(c.below(6))
					_, err := moves(d, level, from, (from+1+int64(c.below(5)))%6)
					switch err {
					case api.OK:
						done++
					case api.ErrSerial, api.ErrBusy, api.ErrNewer:
					default:
						t.Errorf("a move is told %d", err)
						return
					}
				}
			}()
		}
		all.Wait()
		close(stop)
		readers.Wait()
		sumIs(t, d, 600)
		wants(t, "the frontier", d.Frontier(), 1+10*each)
		wants(t, "the active ones", len(d.Active()), 0)
	}
}

// sumIs holds the sum of all rows, as one that begins now sees them, against what is wanted; and prunes now and then.
func sumIs(t *testing.T, d *txn.DB, want int64) {
	x, err := d.Begin(snapshot)
	if err != api.OK {
		t.Errorf("Begin: error %d", err)
		return
	}
	for _, index := range []int{-1, 0} {
		l, err := d.Scan(x, 0, by(index))
		sum := int64(0)
		for _, s := range l {
			sum += s.Row[1].N
		}
		if err != api.OK || sum != want {
			t.Errorf("the sum by %d: %d, error %d, want %d", index, sum, err, want)
		}
		d.Prune(d.Horizon())
	}
	d.Commit(x)
}

// P2, Tx10: serializable ones in goroutines, beside others of all levels: those that committed are told what they would be told one behind the other.
func TestSerializableSideBySide(t *testing.T) {
	for seed := range 12 {
		d := madeOf(t, newTeller(t, 0, 5).tabs...)
		stories := make([][]*story, 8)
		together(len(stories), func(i int) {
			w := newTeller(t, seed*100+i, 5)
			w.count = int64(i) * 1000000
			for n := range 25 {
				level := serial
				if i == 0 {
					level = committed + n%2
				}
				s := tells(w, d, level)
				stories[i] = append(stories[i], s)
			}
		})
		for _, l := range stories {
			for _, s := range l {
				if s.level == serial && s.err == api.OK {
					s.replays(t, d)
				}
			}
		}
	}
}

// tells is a transaction from its begin to its end.
func tells(w *teller, d *txn.DB, level int) *story {
	x, err := d.Begin(level)
	if err != api.OK {
		w.t.Errorf("Begin: error %d", err)
	}
	s := &story{number: x, level: level}
	for range 1 + w.below(8) {
		s.goesOn(d, w.call(true))
	}
	s.ends(d, w.below(8) == 0)
	return s
}

// P2: the history of serializable ones that read and write rows, and ranges, has edges to greater stamps alone; and is one that snapshots give.
func TestHistoryOfSerializableOnes(t *testing.T) {
	ends, met := 0, 0
	for seed := range 10 {
		const keys = 6
		d := accounts(t, keys)
		var lock sync.Mutex
		var h []api.Action
		// wrote is whose write, and the how manieth of the row, a number in b is: each one is written once.
		wrote := map[int64]api.Saw{}
		// tell makes a call and tells it, one behind the other, as the calls take effect.
		tell := func(make func() []api.Action) {
			lock.Lock()
			defer lock.Unlock()
			h = append(h, make()...)
		}
		together(6, func(i int) {
			c := &chance{uint64(seed*10 + i)}
			for n := range 12 {
				historical(t, d, c, int64(1000+i*10000+n*100), keys, wrote, tell)
			}
		})
		place, err := graph.Check(h)
		if err != api.OK {
			t.Fatalf("the history: error %d at %d: %+v", err, place, h[place])
		}
		stamps := map[int]uint64{}
		for _, a := range h {
			if a.Kind == api.ActCommit {
				stamps[a.Txn] = a.Stamp
			}
		}
		edges, err := graph.Edges(h)
		wants(t, "Edges", err, api.OK)
		for _, e := range edges {
			if stamps[e.From] >= stamps[e.To] {
				t.Fatalf("the edge %+v leads from %d to %d", e, stamps[e.From], stamps[e.To])
			}
		}
		ends, met = ends+len(stamps), met+len(edges)
		is, err := graph.Snapshot(h)
		wants(t, "Snapshot", err, api.OK)
		wants(t, "what snapshots give", is, true)
	}
	if ends < 20 || met < 20 {
		t.Fatalf("only %d commits and %d edges", ends, met)
	}
}

// historical is a serializable one that reads and updates rows; what it writes has numbers of its own, from base on.
func historical(t *testing.T, d *txn.DB, c *chance, base int64, keys int, wrote map[int64]api.Saw, tell func(func() []api.Action)) {
	var x int
	nth := map[int64]int{}
	tell(func() []api.Action {
		x, _ = d.Begin(serial)
		return []api.Action{{Txn: x, Kind: api.ActBegin, Stamp: d.Frontier()}}
	})
	for n := range int64(1 + c.below(5)) {
		k := int64(c.below(keys))
		switch c.below(3) {
		case 0:
			tell(func() []api.Action {
				row, _, err := d.Get(x, 0, key(k))
				if err != api.OK {
					t.Errorf("Get: error %d", err)
					return nil
				}
				saw := wrote[row[1].N]
				return []api.Action{{Txn: x, Kind: api.ActRead, Item: keyOf(k), From: saw.From, Nth: saw.Nth}}
			})
		case 1:
			tell(func() []api.Action {
				r := upTo(k, k+1+int64(c.below(keys)))
				l, err := d.Scan(x, 0, api.Scan{Index: -1, Range: r, Most: many})
				if err != api.OK {
					t.Errorf("Scan: error %d", err)
				}
				a := api.Action{Txn: x, Kind: api.ActScan, Range: r}
				for _, s := range l {
					if saw := wrote[s.Row[1].N]; saw.From != 0 {
						a.Seen = append(a.Seen, api.Saw{Item: s.Key, From: saw.From, Nth: saw.Nth})
					}
				}
				return []api.Action{a}
			})
		case 2:
			tell(func() []api.Action {
				row, _, _ := d.Get(x, 0, key(k))
				saw := wrote[row[1].N]
				read := api.Action{Txn: x, Kind: api.ActRead, Item: keyOf(k), From: saw.From, Nth: saw.Nth}
				if err := d.Update(x, 0, key(k), pair(k, base+n)); err != api.OK {
					return []api.Action{read}
				}
				nth[k]++
				wrote[base+n] = api.Saw{From: x, Nth: nth[k]}
				return []api.Action{read, {Txn: x, Kind: api.ActWrite, Item: keyOf(k)}}
			})
		}
	}
	tell(func() []api.Action {
		info, _ := d.Info(x)
		stamp, err := d.Commit(x)
		switch {
		case err != api.OK || info.Writes == 0:
			return []api.Action{{Txn: x, Kind: api.ActAbort}}
		}
		return []api.Action{{Txn: x, Kind: api.ActCommit, Stamp: stamp}}
	})
}

// All calls side by side, some of them on one transaction: each takes effect whole, and when all have ended there is what there must be.
func TestAllCallsSideBySide(t *testing.T) {
	d := madeOf(t, newTeller(t, 0, 9).tabs...)
	shared := begin(t, d, serial)
	together(12, func(i int) {
		w := newTeller(t, i, 9)
		w.count = int64(i) * 1000000
		for n := range 60 {
			switch i {
			case 0:
				d.Prune(d.Horizon())
			case 1:
				d.Latest(n%2, n%2-1, all())
				d.Entries(n%2, -1, all())
				d.At(0, d.Frontier())
				d.Tables()
			case 2, 3, 4:
				if _, _, err := d.Get(shared, 0, key(int64(100*i+n))); err != api.OK {
					t.Errorf("Get: error %d", err)
				}
				if err := d.Insert(shared, 1, pair(int64(100*i+n), 0)); err != api.OK {
					t.Errorf("Insert: error %d", err)
				}
				d.TryInsert(shared, 1, pair(int64(100*i+n), 0))
				d.Foot(shared)
			case 5:
				for _, x := range d.Active() {
					d.Info(x)
					d.Foot(x)
				}
				if x, err := d.BeginAt(d.Floor()); err == api.OK {
					d.Scan(x, 0, by(0))
					d.Commit(x)
				}
			default:
				tells(w, d, committed+n%3)
			}
		}
	})
	f, err := d.Foot(shared)
	wants(t, "Foot", err, api.OK)
	wants(t, "how many points it read", len(f.Points), 2*3*60)
	wants(t, "how many points it wrote", len(f.Writes), 2*3*60)
	infoIs(t, d, shared, api.Info{Level: serial, Writes: 3 * 60})
	commits(t, d, shared, d.Frontier()+1)
	wants(t, "the active ones", len(d.Active()), 0)
	d.Prune(d.Frontier())
	for n := range 2 {
		rows, err := d.At(n, d.Frontier())
		wants(t, "At", err, api.OK)
		for index := -1; index < 1; index++ {
			held, err := d.Latest(n, index, all())
			wants(t, "Latest", err, api.OK)
			hits, _ := d.Entries(n, index, all())
			wants(t, "how many rows are there", len(held), len(rows))
			wants(t, "how many entries", len(hits), len(rows))
			for _, h := range held {
				wants(t, "what is there", fmt.Sprint(len(h.Versions), h.Intent.Txn), "1 0")
			}
		}
	}
}

// R4: databases know nothing of one another.
func TestDatabasesAreApart(t *testing.T) {
	a, b := two(t), two(t)
	was := state(t, b)
	x := begin(t, a, serial)
	updates(t, a, x, 1, pair(1, 5))
	wants(t, "Get in the other one", func() api.Errno { _, _, err := b.Get(x, 0, key(1)); return err }(), api.ErrTxn)
	commits(t, a, x, 2)
	a.Prune(2)
	wants(t, "the other one", state(t, b), was)
}
