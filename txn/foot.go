package txn

import (
	"slices"
	"sync"

	"vellum/api"
	"vellum/sets"
)

// foot is what a transaction read and wrote.
type foot struct {
	// lock is held while something is noted: those who only read share the database's lock, and yet note.
	lock   sync.Mutex
	normal api.Foot
	// late is what was noted behind normal. It is merged into it when that is asked for, or there is no room: to merge one point costs as much as to merge all of these.
	late api.Foot
}

func size(f api.Foot) int {
	return len(f.Points) + len(f.Spans) + len(f.Writes)
}

// note puts into the foot what another one has; or nothing, if layer 17's Merge refuses that.
func (f *foot) note(other api.Foot) api.Errno {
	f.lock.Lock()
	defer f.lock.Unlock()
	if !f.takes(other) {
		return api.ErrFull
	}
	f.late.Points = append(f.late.Points, other.Points...)
	f.late.Spans = append(f.late.Spans, other.Spans...)
	f.late.Writes = append(f.late.Writes, other.Writes...)
	return api.OK
}

// may tells whether another one could be noted.
func (f *foot) may(other api.Foot) api.Errno {
	f.lock.Lock()
	defer f.lock.Unlock()
	if !f.takes(other) {
		return api.ErrFull
	}
	return api.OK
}

// takes is asked by who holds the lock. What is not merged yet may count for too much, never for too little: so only where there seems to be no room it must be merged to know.
func (f *foot) takes(other api.Foot) bool {
	if size(f.normal)+size(f.late)+size(other) > api.MaxFoot {
		f.merge()
	}
	return size(f.normal)+size(f.late)+size(other) <= api.MaxFoot
}

// merge is called by who holds the lock. It is not refused: no more was noted than there was room for.
func (f *foot) merge() {
	if size(f.late) == 0 {
		return
	}
	f.normal, _ = sets.Merge(f.normal, f.late)
	f.late = api.Foot{}
}

// whole is all that was noted, normal, in memory of its own.
func (f *foot) whole() api.Foot {
	f.lock.Lock()
	defer f.lock.Unlock()
	f.merge()
	return api.Foot{
		Points: slices.Clone(f.normal.Points),
		Spans:  slices.Clone(f.normal.Spans),
		Writes: slices.Clone(f.normal.Writes),
	}
}
