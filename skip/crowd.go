package skip

import (
	"math"
	"sync"

	"vellum/api"
)

// Crowd lets goroutines work on one list side by side: what each was told, and what is there in the end.
func Crowd(l [][]api.SkipOp) ([][]api.SkipDone, []api.Entry, api.Errno) {
	if err := mayCrowd(l); err != api.OK {
		return nil, nil, err
	}
	list := New()
	told := make([][]api.SkipDone, len(l))
	var all sync.WaitGroup
	all.Add(len(l))
	for i, ops := range l {
		go func() {
			defer all.Done()
			told[i] = list.doAll(ops)
		}()
	}
	all.Wait()
	return told, list.Scan(api.Range{Open: true}, false, math.MaxInt), api.OK
}

func mayCrowd(l [][]api.SkipOp) api.Errno {
	switch {
	case len(l) > api.MaxCrowd || someOp(l, noKind):
		return api.ErrArg
	case someOp(l, longKey):
		return api.ErrLong
	case tooMany(l):
		return api.ErrFull
	}
	return api.OK
}

func someOp(l [][]api.SkipOp, is func(op api.SkipOp) bool) bool {
	for _, ops := range l {
		for _, op := range ops {
			if is(op) {
				return true
			}
		}
	}
	return false
}

func noKind(op api.SkipOp) bool { return op.Kind < api.SkipPut || op.Kind > api.SkipGet }

func longKey(op api.SkipOp) bool { return tooLong(op.Key) }

// tooMany goes down from the limit: a sum of any lengths may wrap.
func tooMany(l [][]api.SkipOp) bool {
	left := api.MaxOps
	for _, ops := range l {
		if len(ops) > left {
			return true
		}
		left -= len(ops)
	}
	return false
}

// doAll does operations, one behind the other.
func (l *List) doAll(ops []api.SkipOp) []api.SkipDone {
	told := make([]api.SkipDone, len(ops))
	for i, op := range ops {
		told[i] = l.do(workOf(op))
	}
	return told
}

// workOf is what an operation does. One that only reads is a step too, to have its place in the order.
func workOf(op api.SkipOp) work {
	switch op.Kind {
	case api.SkipPut:
		return putting(op.Key, op.Value, Height(op.Key))
	case api.SkipAdd:
		return adding(op.Key, op.Value, Height(op.Key))
	case api.SkipDelete:
		return deleting(op.Key)
	default:
		return getting(op.Key)
	}
}
