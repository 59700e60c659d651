package snap

import (
	"cmp"
	"slices"
	"sort"

	"vellum/api"
)

// state is who is there at one time. It never changes once others may see it: who asks goes through its readers while calls put other states in its place.
type state struct {
	// at is how many calls have taken effect: the place, in the order of all, of the one that left this state.
	at    uint64
	floor uint64
	// readers stand by rising slots.
	readers []api.Reader
}

// enter is the state with one more reader, and its slot.
func (x state) enter(stamp uint64) (state, uint64, api.Errno) {
	switch {
	case stamp > api.MaxStamp:
		return x, 0, api.ErrArg
	case stamp < x.floor:
		return x, 0, api.ErrLow
	case len(x.readers) == api.MaxSlots:
		return x, 0, api.ErrFull
	}
	slot := x.free()
	x.readers = slices.Concat(x.readers[:slot], []api.Reader{{Slot: slot, Stamp: stamp}}, x.readers[slot:])
	return x, uint64(slot), api.OK
}

// free is the least slot that nobody is in: up to it each reader's place is its slot, behind it none is.
func (x state) free() int {
	return sort.Search(len(x.readers), func(i int) bool { return x.readers[i].Slot > i })
}

// leave is the state without the reader of a slot.
func (x state) leave(slot int) (state, uint64, api.Errno) {
	i, there := slices.BinarySearchFunc(x.readers, slot, func(r api.Reader, slot int) int { return cmp.Compare(r.Slot, slot) })
	if !there {
		return x, 0, api.ErrSlot
	}
	x.readers = slices.Concat(x.readers[:i], x.readers[i+1:])
	return x, 0, api.OK
}

// raise is the state with the floor raised as far as its readers let it, and that floor.
func (x state) raise(to uint64) (state, uint64, api.Errno) {
	to = min(to, api.MaxStamp)
	if least, some := x.least(); some {
		to = min(to, least)
	}
	x.floor = max(x.floor, to)
	return x, x.floor, api.OK
}

// least is the least stamp of a reader; false: nobody is there.
func (x state) least() (uint64, bool) {
	if len(x.readers) == 0 {
		return 0, false
	}
	least := x.readers[0].Stamp
	for _, r := range x.readers {
		least = min(least, r.Stamp)
	}
	return least, true
}
