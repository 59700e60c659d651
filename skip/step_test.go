package skip

import (
	"fmt"
	"slices"
	"testing"

	"vellum/api"
)

// begun puts a step behind all others, as a goroutine does that gets no further.
func begun(l *List, w work) *step {
	last := l.last.Load()
	s := &step{at: last.at + 1, count: l.finish(last).count, work: w}
	l.last.Store(s)
	return s
}

// listOf has these keys, each with its place as its value, on so many levels and one more from place to place.
func listOf(height int, keys ...string) *List {
	l := New()
	for i, key := range keys {
		l.Put(key, int64(i), min(height+i, api.MaxHeight))
	}
	return l
}

// looks is all that a list tells, each asked of a list of its own, as the first thing.
func looks(made func() *List) []string {
	calls := []func(l *List) string{
		func(l *List) string { return fmt.Sprint(l.Get("b")) },
		func(l *List) string { return fmt.Sprint(l.Seek("b", false)) },
		func(l *List) string { return fmt.Sprint(l.Seek("b", true)) },
		func(l *List) string { return fmt.Sprint(l.Scan(api.Range{Open: true}, false, 9)) },
		func(l *List) string { return fmt.Sprint(l.Scan(api.Range{Open: true}, true, 9)) },
		func(l *List) string { return fmt.Sprint(l.Len()) },
		func(l *List) string { return fmt.Sprint(l.Levels()) },
		func(l *List) string { return fmt.Sprint(l.Put("b", 77, 3)) },
		func(l *List) string { return fmt.Sprint(l.Delete("b")) },
		func(l *List) string { return fmt.Sprint(l.do(getting("b"))) },
		func(l *List) string { return fmt.Sprint(l.do(adding("b", 78, 2)), l.Levels()) },
	}
	var told []string
	for _, call := range calls {
		told = append(told, call(made()))
	}
	return told
}

// One behind the other: a step takes effect when it is the last one, whoever does it: of a goroutine that gets no further then, and of one that stops in the midst of what it changes, others do it.
func TestStepsThatAreLeftToOthers(t *testing.T) {
	steps := []work{putting("b", 50, 3), putting("a", 51, 5), putting("bb", 52, 16), adding("b", 53, 3), adding("", 54, 4), deleting("b"), deleting("c"), deleting("zz"), getting("b")}
	for _, keys := range [][]string{nil, {"a", "c"}, {"b"}, {"c", "b", "a"}} {
		for _, w := range steps {
			want := looks(func() *List {
				l := listOf(2, keys...)
				l.do(w)
				return l
			})
			for halfway := -1; halfway <= 16; halfway++ {
				got := looks(func() *List {
					l := listOf(2, keys...)
					stopped(begun(l, w), l, halfway)
					return l
				})
				if !slices.Equal(got, want) {
					t.Fatalf("of keys %q, behind %d swings: %q, want %q", keys, halfway, got, want)
				}
			}
		}
	}
}

// stopped works out what a step changes, and does so many swings of it; -1: not even that.
func stopped(s *step, l *List, swings int) {
	if swings < 0 {
		return
	}
	c := s.work(view{l, s})
	s.change.Store(c)
	for i, x := range c.links {
		if i < swings {
			x.do()
		}
	}
}

// Sk1: who comes late to a step, when others have done it and gone on, changes nothing: also where all its keys stand again as they stood then.
func TestStepsThatAreDoneLate(t *testing.T) {
	undone := map[string]work{"put b": deleting("b"), "delete c": putting("c", 1, 3), "put c": putting("c", 1, 9)}
	steps := map[string]work{"put b": putting("b", 50, 4), "delete c": deleting("c"), "put c": putting("c", 60, 9)}
	for name, w := range steps {
		for _, again := range []bool{false, true} {
			l := listOf(2, "a", "c", "e")
			s := begun(l, w)
			worked := s.work(view{l, s}) // by one who falls asleep here
			l.finish(s)
			l.do(undone[name])
			if again {
				l.do(w)
			}
			want := fmt.Sprint(l.Levels(), l.Scan(api.Range{Open: true}, false, 9), l.Len())
			for _, c := range []*change{worked, s.change.Load()} {
				for _, x := range c.links {
					x.do()
				}
				for _, x := range c.values {
					x.do()
				}
			}
			s.done.Store(false)
			l.finish(s)
			if got := fmt.Sprint(l.Levels(), l.Scan(api.Range{Open: true}, false, 9), l.Len()); got != want {
				t.Errorf("%s, late: %s, want %s", name, got, want)
			}
		}
	}
}

// One behind the other: what was worked out first holds: who works it out on a list that has changed since is not heard.
func TestWorkThatIsLate(t *testing.T) {
	l := listOf(1, "a")
	s := begun(l, putting("b", 5, 2))
	first := l.finish(s)
	l.Delete("a")
	if late := l.finish(s); late != first || !slices.Equal(l.Levels()[0], []string{"b"}) {
		t.Errorf("a step was worked out twice; Levels = %q", l.Levels())
	}
}

// R1, Sk2: a read that others come between, again and again, is a step in the end; the list does not keep what it told.
func TestReadsThatAreTriedInVain(t *testing.T) {
	l := listOf(1, "a", "c")
	tried := 0
	got := tell(l, func(v view) []api.Entry {
		tried++
		if tried <= tries {
			l.Put("b", int64(tried), 2) // another one comes between
		}
		return v.scan(api.Range{Open: true}, false, 9)
	})
	if fmt.Sprint(got) != fmt.Sprintf("[{a 0 1} {b %d 2} {c 1 2}]", tries) || tried != tries+1 {
		t.Errorf("tried %d times: %v", tried, got)
	}
	if last := l.last.Load(); last.work != nil || last.count != 3 || l.Len() != 3 {
		t.Errorf("the last step is %+v", last)
	}
	if was, there := l.Delete("b"); was != tries || !there || l.Len() != 2 {
		t.Errorf("Delete = %d, %v, Len = %d", was, there, l.Len())
	}
}

// R1: who reads what does not hold any more ends soon: it finds nothing ahead.
func TestViewsThatDoNotHold(t *testing.T) {
	l := listOf(1, "a", "b", "c")
	v := l.now()
	l.Put("d", 1, 1)
	if v.holds() || v.behind(l.head, 0) != nil || len(v.levels()) != 0 || len(v.scan(api.Range{Open: true}, true, 9)) != 0 {
		t.Error("a view that does not hold is gone over")
	}
}
