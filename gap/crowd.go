package gap

import (
	"sync"
	"sync/atomic"

	"vellum/api"
)

// maxRounds is how often a crowd's goroutines take their ranges at most.
const maxRounds = 256

// Crowd lets a goroutine for each list take and give back its ranges, so many times: each one's turns.
func Crowd(l [][]api.Hold, rounds int) ([][]api.Turn, api.Errno) {
	if err := mayCrowd(l, rounds); err != api.OK {
		return nil, err
	}
	g := New()
	var count atomic.Uint64
	turns := make([][]api.Turn, len(l))
	var all sync.WaitGroup
	all.Add(len(l))
	for i, holds := range l {
		go func() {
			defer all.Done()
			turns[i] = g.turns(holds, rounds, &count)
		}()
	}
	all.Wait()
	return turns, api.OK
}

func mayCrowd(l [][]api.Hold, rounds int) api.Errno {
	if len(l) > api.MaxCrowd {
		return api.ErrFull
	}
	for _, holds := range l {
		if len(holds) > api.MaxHolds {
			return api.ErrFull
		}
	}
	if rounds < 0 || rounds > maxRounds {
		return api.ErrArg
	}
	return api.OK
}

// turns is what one goroutine of a crowd does.
func (g *Gaps) turns(holds []api.Hold, rounds int, count *atomic.Uint64) []api.Turn {
	c := claimOf(holds)
	turns := make([]api.Turn, rounds)
	for i := range turns {
		turns[i] = g.turn(c, count)
	}
	return turns
}

// turn is refused nothing: each goroutine of a crowd is there once at most, and MaxTxns is more than MaxCrowd; and nobody else gives its ticket back. The count goes on while the ranges are held, so that it tells turns in the order of who had them.
func (g *Gaps) turn(c claim, count *atomic.Uint64) api.Turn {
	ticket, _ := g.take(c)
	g.Wait(ticket)
	turn := api.Turn{Ticket: ticket, From: count.Add(1), To: count.Add(1)}
	g.Give(ticket)
	return turn
}
