package skip

import (
	"sync/atomic"

	"vellum/api"
)

// step is a call in the order in which all take effect: it does so when it becomes the list's last one. What it changes is worked out and done behind that, by whoever comes by, ahead of anything else that is asked of the list: so nobody waits for a goroutine that does not get on.
type step struct {
	// at is its place in the order, and count how many keys there are ahead of it.
	at    uint64
	count int
	work  work
	// change is nil, till somebody has worked it out.
	change atomic.Pointer[change]
	// done saves who comes by from doing again what is done.
	done atomic.Bool
}

// work tells what a step changes, of a list as the step finds it. Several may be at it at one time, and late ones find a list that has changed since: what the first one told holds.
type work func(v view) *change

// change is what a step finds, and what it does.
type change struct {
	// was is what the step's key had ahead of it, if it was there.
	was   int64
	there bool
	// count is how many keys there are behind it.
	count  int
	links  []swing[link]
	values []swing[int64]
}

// resting is a step of which nothing is left to do.
func resting(at uint64, count int) *step {
	s := &step{at: at, count: count}
	s.change.Store(&change{count: count})
	s.done.Store(true)
	return s
}

// take puts a step behind all others, and does it.
func (l *List) take(w work) (*step, *change) {
	s := &step{work: w}
	for {
		last := l.last.Load()
		s.at, s.count = last.at+1, l.finish(last).count
		if l.last.CompareAndSwap(last, s) {
			return s, l.finish(s)
		}
		// Another one came ahead. Of many that come, one always gets on.
	}
}

// do is take, for who asks what the step found.
func (l *List) do(w work) api.SkipDone {
	s, c := l.take(w)
	return api.SkipDone{At: s.at, Was: c.there, Value: c.was}
}

// finish does a step that is the list's last one, or was: when it answers, all that the step changes is changed.
func (l *List) finish(s *step) *change {
	c := s.change.Load()
	if c == nil {
		s.change.CompareAndSwap(nil, s.work(view{l, s}))
		c = s.change.Load()
	}
	if s.done.Load() {
		return c
	}
	for _, x := range c.links {
		x.do()
	}
	for _, x := range c.values {
		x.do()
	}
	s.done.Store(true)
	return c
}

// tries is how often a read is tried beside those who write: behind that it is a step itself, for which all others wait. Else one that goes far might never get through.
const tries = 4

// tell is what is read of the list at one time.
func tell[T any](l *List, read func(v view) T) T {
	for range tries {
		v := l.now()
		t := read(v)
		if v.holds() {
			return t
		}
	}
	var first atomic.Pointer[T]
	s, c := l.take(func(v view) *change {
		t := read(v)
		first.CompareAndSwap(nil, &t)
		return &change{count: v.step.count}
	})
	// The list is not to keep what is told here.
	l.last.CompareAndSwap(s, resting(s.at, c.count))
	return *first.Load()
}
