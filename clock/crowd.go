package clock

import (
	"sync"

	"vellum/api"
)

// Crowd lets goroutines take stamps of one clock side by side, each so many, and say each so many behind that they are done; and what each was told.
func Crowd(last uint64, takes, lags []int) ([]api.Stamps, uint64, api.Errno) {
	if err := mayCrowd(last, takes, lags); err != api.OK {
		return nil, 0, err
	}
	c, err := New(last)
	if err != api.OK {
		return nil, 0, err
	}
	told := make([]api.Stamps, len(takes))
	var all sync.WaitGroup
	all.Add(len(takes))
	for i := range takes {
		go func() {
			defer all.Done()
			told[i] = c.takeAll(takes[i], lags[i])
		}()
	}
	all.Wait()
	return told, c.Frontier(), api.OK
}

func mayCrowd(last uint64, takes, lags []int) api.Errno {
	if len(takes) > api.MaxCrowd || len(takes) != len(lags) || last > api.MaxStamp {
		return api.ErrArg
	}
	for i := range takes {
		if takes[i] < 0 || lags[i] < 0 {
			return api.ErrArg
		}
	}
	// Going down from the limit: a sum of any ints may wrap.
	left := api.MaxRing
	for _, n := range takes {
		if n > left {
			return api.ErrFull
		}
		left -= n
	}
	if last+uint64(api.MaxRing-left) > api.MaxStamp {
		return api.ErrEnd
	}
	return api.OK
}

// takeAll takes stamps, and says of each that it is done when lag others of its own were taken behind it, or none is left to take.
func (c *Clock) takeAll(takes, lag int) api.Stamps {
	told := api.Stamps{Taken: make([]uint64, 0, takes), Done: make([]uint64, 0, takes)}
	for range takes {
		// Not refused: mayCrowd has seen to it that there is room for all.
		stamp, _ := c.Take()
		told.Taken = append(told.Taken, stamp)
		if len(told.Taken) > lag {
			c.doneNext(&told)
		}
	}
	for len(told.Done) < len(told.Taken) {
		c.doneNext(&told)
	}
	return told
}

// doneNext says of the first stamp that is left that it is done, and asks for the frontier.
func (c *Clock) doneNext(told *api.Stamps) {
	c.Done(told.Taken[len(told.Done)])
	told.Done = append(told.Done, c.Frontier())
}
