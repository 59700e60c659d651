package cell

import (
	"slices"
	"sync"

	"vellum/api"
)

// Crowd lets a goroutine for each list push its values, one behind the other, onto one place: all values, oldest first.
func Crowd(l [][]int64) ([]int64, api.Errno) {
	if len(l) > api.MaxCrowd || tooMany(l) {
		return nil, api.ErrFull
	}
	c := New[int64]()
	var all sync.WaitGroup
	all.Add(len(l))
	for _, values := range l {
		go func() {
			defer all.Done()
			pushAll(c, values)
		}()
	}
	all.Wait()
	pushed := c.All()
	slices.Reverse(pushed)
	return pushed, api.OK
}

// tooMany goes down from the limit: a sum of any lengths may wrap.
func tooMany(l [][]int64) bool {
	left := api.MaxOps
	for _, values := range l {
		if len(values) > left {
			return true
		}
		left -= len(values)
	}
	return false
}

func pushAll(c *Cell[int64], values []int64) {
	for _, v := range values {
		push(c, v)
	}
}

func push(c *Cell[int64], v int64) {
	for {
		_, number := c.Load()
		// Where it fails, another one's has taken effect: so of many that push, one always gets on.
		if c.Push(number, v) {
			return
		}
	}
}
