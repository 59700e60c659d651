package snap

import (
	"sync"

	"vellum/api"
)

// Crowd lets goroutines enter, leave and raise side by side: what each was told.
func Crowd(floor uint64, l [][]api.SnapOp) ([][]api.SnapDone, []api.Reader, uint64, api.Errno) {
	if err := mayCrowd(floor, l); err != api.OK {
		return nil, nil, 0, err
	}
	s, err := New(floor)
	if err != api.OK {
		return nil, nil, 0, err
	}
	told := make([][]api.SnapDone, len(l))
	var all sync.WaitGroup
	all.Add(len(l))
	for i, ops := range l {
		go func() {
			defer all.Done()
			m := member{snaps: s}
			told[i] = m.doAll(ops)
		}()
	}
	all.Wait()
	return told, s.Readers(), s.Floor(), api.OK
}

func mayCrowd(floor uint64, l [][]api.SnapOp) api.Errno {
	if floor > api.MaxStamp || len(l) > api.MaxCrowd {
		return api.ErrArg
	}
	for _, ops := range l {
		for _, op := range ops {
			if op.Kind < api.SnapEnter || op.Kind > api.SnapLeast {
				return api.ErrArg
			}
		}
	}
	if tooMany(l) {
		return api.ErrFull
	}
	return api.OK
}

// tooMany goes down from the limit: a sum of any lengths may wrap.
func tooMany(l [][]api.SnapOp) bool {
	left := api.MaxOps
	for _, ops := range l {
		if len(ops) > left {
			return true
		}
		left -= len(ops)
	}
	return false
}

// member is a goroutine of a crowd.
type member struct {
	snaps *Snaps
	// slots has what each Enter of its own told that was not refused; nowhere, where it has left that: another one's reader may be in the slot by then.
	slots []int
}

// nowhere is no slot.
const nowhere = -1

func (m *member) doAll(ops []api.SnapOp) []api.SnapDone {
	told := make([]api.SnapDone, len(ops))
	for i, op := range ops {
		told[i] = m.do(op)
	}
	return told
}

func (m *member) do(op api.SnapOp) api.SnapDone {
	switch op.Kind {
	case api.SnapEnter:
		return m.enter(op.Stamp)
	case api.SnapLeave:
		return m.leave(op.I)
	case api.SnapRaise:
		return m.snaps.raise(op.Stamp)
	default:
		return m.least()
	}
}

func (m *member) enter(stamp uint64) api.SnapDone {
	done := m.snaps.enter(stamp)
	if done.Err == api.OK {
		m.slots = append(m.slots, int(done.N))
	}
	return done
}

func (m *member) leave(i int) api.SnapDone {
	slot := nowhere
	if i >= 0 && i < len(m.slots) {
		slot, m.slots[i] = m.slots[i], nowhere
	}
	// Nobody is nowhere: so it is refused, and has its place in the order.
	return m.snaps.leave(slot)
}

// least goes by turn, as what changes something does, to have its place in the order.
func (m *member) least() api.SnapDone {
	return m.snaps.turn(func(x state) (state, uint64, api.Errno) {
		least, some := x.least()
		if !some {
			return x, 0, api.ErrNone
		}
		return x, least, api.OK
	})
}
