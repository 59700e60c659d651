package guard_test

import (
	"fmt"
	"testing"

	"vellum/api"
	"vellum/guard"
	"vellum/txn"
)

// The tables of the stories: pages lie in books and may follow one another; a book has a number and a name of its own.
func storyTexts() []string {
	return []string{
		"create table books (a int not null, name int, primary key (a), unique index i (name))",
		"create table pages (a int not null, book int, next int, n int, primary key (a), index i (book), unique index j (book, n), foreign key (book) references books, foreign key (next) references pages)",
	}
}

// call is something that a transaction asks for, and what it was told.
type call struct {
	do    int
	table int
	k, l  []api.Value
	told  string
	taken bool
}

// The first three are those of guarded.
const (
	doGet  = 3
	doScan = 4
	doSave = 5
	doBack = 6
)

// make makes a call: what is told, and whether that is only since others are there.
func (c call) make(g *guard.Guard, x int) (string, bool) {
	d := g.DB()
	switch c.do {
	case doGet:
		row, there, err := d.Get(x, c.table, c.k)
		return fmt.Sprint(shownRow(row), there, err), false
	case doScan:
		l, err := d.Scan(x, c.table, api.Scan{Range: all(), Most: many})
		text := ""
		for _, s := range l {
			text += shownRow(s.Row) + ", "
		}
		return fmt.Sprint(text, err), false
	case doSave:
		return fmt.Sprint(d.Save(x)), false
	case doBack:
		return fmt.Sprint(d.Back(x, 1)), false
	}
	got := guarded(g, c.do, x, c.table, c.k, c.l)
	return fmt.Sprint(got), got.err == api.ErrBusy || got.err == api.ErrNewer
}

// story is a transaction, from its begin to its end.
type story struct {
	x     int
	level int
	calls []call
	wrote bool
	stamp uint64
	err   api.Errno
}

func (s *story) goesOn(g *guard.Guard, c call) {
	c.told, c.taken = c.make(g, s.x)
	s.calls = append(s.calls, c)
}

func (s *story) ends(g *guard.Guard) {
	info, _ := g.DB().Info(s.x)
	s.wrote = info.Writes > 0
	s.stamp, s.err = g.DB().Commit(s.x)
}

// refused tells whether something was refused that was a write.
func (s *story) refused() bool {
	for _, c := range s.calls {
		if c.do < doGet && c.told != fmt.Sprint(ok) {
			return true
		}
	}
	return false
}

// chanceCall is one of few.
func chanceCall(c *chance) call {
	n := func() any { return c.below(5) }
	orNull := func() any { return one(c, nil, n(), n()) }
	out := call{do: one(c, 0, 0, 0, 1, 1, 2, doGet, doScan, doSave, doBack), table: c.below(2), k: row(n())}
	out.l = row(n(), orNull())
	if out.table == 1 {
		out.l = row(n(), orNull(), orNull(), orNull())
	}
	return out
}

// replays is what P2 asks for, as far as guards are meant: a serializable one that committed, and wrote, would have been told the same, what was broken too, had it run whole just ahead of its stamp; and it would have left the same.
func (s *story) replays(t *testing.T, g *guard.Guard) {
	t.Helper()
	from := s.stamp
	if s.wrote {
		from--
	}
	var rows [][][]api.Value
	for n := range storyTexts() {
		rows = append(rows, rowsAt(t, g.DB(), n, from))
	}
	d, err := txn.Load(g.DB().Tables(), rows, from)
	wants(t, "Load", err, api.OK)
	again, err := guard.Over(d)
	wants(t, "Over", err, api.OK)
	x := begin(t, again, serial)
	for i, c := range s.calls {
		if c.taken {
			continue
		}
		if told, _ := c.make(again, x); told != c.told {
			t.Fatalf("transaction %d, stamp %d: its call %d, %+v, is told %s alone", s.x, s.stamp, i, c, told)
		}
	}
	stamp, err := d.Commit(x)
	wants(t, "Commit", fmt.Sprint(stamp, err), fmt.Sprint(s.stamp, api.OK))
	for n := range storyTexts() {
		wants(t, "what it left", shownRows(rowsAt(t, d, n, s.stamp)), shownRows(rowsAt(t, g.DB(), n, s.stamp)))
	}
}

// hold holds all that stories were told, and all that is there, against what it must be: how many were replayed.
func hold(t *testing.T, g *guard.Guard, stories []*story) int {
	t.Helper()
	held := 0
	for _, s := range stories {
		// Who wrote nothing, but was refused something for what came behind its snapshot, has no stamp at which that is so.
		if s.level == serial && s.err == api.OK && (s.wrote || !s.refused()) {
			s.replays(t, g)
			held++
		}
		if s.err != api.OK && s.err != api.ErrSerial {
			t.Fatalf("Commit of %d: error %d", s.x, s.err)
		}
	}
	nothingBroken(t, g)
	return held
}

// P2, P4: step by step, at all levels side by side.
func TestStories(t *testing.T) {
	held := 0
	for seed := range 150 {
		g := made(t, storyTexts()...)
		c := &chance{uint64(seed)}
		var active, ended []*story
		for range 250 {
			if len(active) < 4 && c.below(3) == 0 {
				level := one(c, committed, snapshot, serial, serial, serial)
				active = append(active, &story{x: begin(t, g, level), level: level})
				continue
			}
			if len(active) == 0 {
				continue
			}
			i := c.below(len(active))
			if c.below(6) > 0 {
				active[i].goesOn(g, chanceCall(c))
				continue
			}
			active[i].ends(g)
			ended = append(ended, active[i])
			active = append(active[:i], active[i+1:]...)
		}
		held += hold(t, g, ended)
	}
	if held < 1000 {
		t.Fatalf("only %d were replayed", held)
	}
}

// P2, P4: the same in goroutines.
func TestStoriesSideBySide(t *testing.T) {
	held := 0
	for seed := range 20 {
		g := made(t, storyTexts()...)
		lists := make([][]*story, 8)
		together(len(lists), func(i int) {
			c := &chance{uint64(100*seed + i)}
			for n := range 30 {
				s := &story{level: serial}
				if i == 0 {
					s.level = committed + n%2
				}
				s.x, _ = g.DB().Begin(s.level)
				for range 1 + c.below(5) {
					s.goesOn(g, chanceCall(c))
				}
				s.ends(g)
				lists[i] = append(lists[i], s)
			}
		})
		for _, l := range lists {
			held += hold(t, g, l)
		}
	}
	if held < 500 {
		t.Fatalf("only %d were replayed", held)
	}
}
