package pred

import (
	"vellum/api"
	"vellum/lit"
)

type intsFunc func(a, b int64) (int64, api.Errno)

func sum(a, b int64) (int64, api.Errno) {
	n := a + b
	return n, inRange((n > a) == (b > 0))
}

func difference(a, b int64) (int64, api.Errno) {
	n := a - b
	return n, inRange((n < a) == (b > 0))
}

// product asks for -1 first: the least int times it is the least int again, and so is that divided by it.
func product(a, b int64) (int64, api.Errno) {
	if a == -1 {
		return difference(0, b)
	}
	n := a * b
	return n, inRange(a == 0 || n/a == b)
}

func quotient(a, b int64) (int64, api.Errno) {
	switch b {
	case 0:
		return 0, api.ErrZero
	case -1:
		return difference(0, a)
	}
	return a / b, api.OK
}

func remainder(a, b int64) (int64, api.Errno) {
	if b == 0 {
		return 0, api.ErrZero
	}
	return a % b, api.OK
}

func inRange(ok bool) api.Errno {
	if !ok {
		return api.ErrRange
	}
	return api.OK
}

// told is an int as a value, or why it is none.
func told(n int64, err api.Errno) (api.Value, api.Errno) {
	if err != api.OK {
		return api.Value{}, err
	}
	return lit.Int(n), api.OK
}
