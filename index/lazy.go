package index

import (
	"math"
	"sync"
	"sync/atomic"

	"vellum/api"
	"vellum/store"
)

// Lazy is an index that is built by the first one that asks for it.
type Lazy struct {
	// self is the Lazy itself, if Later gave it: so one that Later did not give is told apart.
	self *Lazy
	once sync.Once
	// index has no entries till it is built, from the rows of store, which is not needed behind that.
	index *Index
	store *store.Store
	err   api.Errno
	built atomic.Int32
}

// Later is one that is not built yet.
func Later(t api.Table, n int, s *store.Store) *Lazy {
	l := &Lazy{store: s}
	l.self = l
	l.index, l.err = New(t, n)
	return l
}

func (l *Lazy) given() bool {
	return l != nil && l.self == l
}

// Get is the index; what the first one's building was refused.
func (l *Lazy) Get() (*Index, api.Errno) {
	if !l.given() {
		return nil, api.ErrArg
	}
	l.once.Do(l.build)
	return l.index, l.err
}

func (l *Lazy) build() {
	if l.err == api.OK {
		l.index, l.err = l.index.filled(l.store)
	}
	l.store = nil
	l.built.Add(1)
}

// Built is how often it was built.
func (l *Lazy) Built() int {
	if !l.given() {
		return 0
	}
	return int(l.built.Load())
}

// Crowd lets so many goroutines ask for one lazy index and look: what each saw, and how often it was built.
func Crowd(t api.Table, n int, s *store.Store, v api.View, many int) ([][]api.Seen, int, api.Errno) {
	if many < 1 || many > api.MaxCrowd {
		return nil, 0, api.ErrArg
	}
	l := Later(t, n, s)
	told := make([][]api.Seen, many)
	var all sync.WaitGroup
	all.Add(many)
	for i := range many {
		go func() {
			defer all.Done()
			x, _ := l.Get()
			told[i] = x.Look(s, v, api.Range{Open: true}, false, math.MaxInt)
		}()
	}
	all.Wait()
	if _, err := l.Get(); err != api.OK {
		return nil, 0, err
	}
	return told, l.Built(), api.OK
}
