package status

import (
	"sync"

	"vellum/api"
)

// Crowd lets goroutines decide transactions at one time: of each transaction which goroutine did.
func Crowd(txns int, l [][]api.Decision) ([]int, api.Errno) {
	if err := mayCrowd(txns, l); err != api.OK {
		return nil, err
	}
	t := newPrepared(txns)
	decided := make([][]int, len(l))
	var all sync.WaitGroup
	all.Add(len(l))
	for i := range l {
		go func() {
			defer all.Done()
			decided[i] = t.decideAll(l[i])
		}()
	}
	all.Wait()
	return deciders(txns, decided), api.OK
}

func mayCrowd(txns int, l [][]api.Decision) api.Errno {
	if txns < 0 || txns > api.MaxTxns {
		return api.ErrArg
	}
	for _, decisions := range l {
		for _, d := range decisions {
			if d.Txn < 1 || d.Txn > txns || d.Stamp > api.MaxStamp {
				return api.ErrArg
			}
		}
	}
	if len(l) > api.MaxCrowd || tooMany(l) {
		return api.ErrFull
	}
	return api.OK
}

// tooMany goes down from the limit: a sum of any lengths may wrap.
func tooMany(l [][]api.Decision) bool {
	left := api.MaxOps
	for _, decisions := range l {
		if len(decisions) > left {
			return true
		}
		left -= len(decisions)
	}
	return false
}

// newPrepared has the transactions from 1 on, so many, all prepared. No call is refused: mayCrowd has seen to it that there is room for all.
func newPrepared(txns int) *Table {
	t := New()
	for range txns {
		txn, _ := t.Begin()
		t.Prepare(txn)
	}
	return t
}

// decideAll is the transactions that these decisions, and not another one's, decided.
func (t *Table) decideAll(l []api.Decision) []int {
	var decided []int
	for _, d := range l {
		if t.decide(d) == api.OK {
			decided = append(decided, d.Txn)
		}
	}
	return decided
}

func (t *Table) decide(d api.Decision) api.Errno {
	if d.Stamp == 0 {
		return t.Abort(d.Txn)
	}
	return t.Commit(d.Txn, d.Stamp)
}

// deciders turns round which goroutine decided which transactions: -1, where none did.
func deciders(txns int, decided [][]int) []int {
	by := make([]int, txns)
	for i := range by {
		by[i] = -1
	}
	for i, numbers := range decided {
		for _, txn := range numbers {
			by[txn-1] = i
		}
	}
	return by
}
