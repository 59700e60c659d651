package tally

import (
	"sync"

	"vellum/api"
)

// Crowd lets a goroutine for each list add, while another one looks some times: the sum at the end, and what was seen.
func Crowd(shards int, l [][]api.Add, looks int) (int64, []int64, api.Errno) {
	c, err := New(shards)
	if err != api.OK {
		return 0, nil, err
	}
	if len(l) > api.MaxCrowd {
		return 0, nil, api.ErrFull
	}
	if looks < 0 || looks > api.MaxOps {
		return 0, nil, api.ErrArg
	}
	seen := make([]int64, looks)
	var all sync.WaitGroup
	all.Add(len(l) + 1)
	go func() {
		defer all.Done()
		c.look(seen)
	}()
	for _, adds := range l {
		go func() {
			defer all.Done()
			c.addAll(adds)
		}()
	}
	all.Wait()
	return c.Sum(), seen, api.OK
}

func (c *Counter) addAll(l []api.Add) {
	for _, a := range l {
		c.Add(a.Shard, a.N)
	}
}

func (c *Counter) look(seen []int64) {
	for i := range seen {
		seen[i] = c.Sum()
	}
}
