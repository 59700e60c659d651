package value

import (
	"cmp"
	"strings"

	"vellum/api"
)

// Compare tells how two values stand in the order of all: -1, 0 or 1.
func Compare(a, b api.Value) int {
	if a.Kind != b.Kind {
		return cmp.Compare(a.Kind, b.Kind)
	}
	switch a.Kind {
	case api.KindBool, api.KindInt:
		return cmp.Compare(a.N, b.N)
	case api.KindFloat:
		return compareFloats(a.F, b.F)
	case api.KindText, api.KindBytes:
		return strings.Compare(a.S, b.S)
	}
	return 0
}

// Numbers tells how two numbers stand, an int and a float too; false: one is none.
func Numbers(a, b api.Value) (int, bool) {
	if !isNumber(a) || !isNumber(b) {
		return 0, false
	}
	switch {
	case a.Kind == b.Kind:
		return Compare(a, b), true
	case a.Kind == api.KindInt:
		return compareIntFloat(a.N, b.F), true
	}
	return -compareIntFloat(b.N, a.F), true
}

func isNumber(v api.Value) bool {
	return v.Kind == api.KindInt || v.Kind == api.KindFloat
}

// compareFloats does not leave NaNs to cmp.Compare, which has them below all numbers.
func compareFloats(a, b float64) int {
	switch {
	case isNaN(a) && isNaN(b):
		return 0
	case isNaN(a):
		return 1
	case isNaN(b):
		return -1
	}
	return cmp.Compare(a, b)
}

// compareIntFloat holds the int against the float's whole part as an int, since an int beyond 2^53 may be none as a float.
func compareIntFloat(n int64, f float64) int {
	switch {
	case isNaN(f) || f >= 1<<63:
		return -1
	case f < -1<<63:
		return 1
	}
	whole := int64(f)
	if n != whole {
		return cmp.Compare(n, whole)
	}
	return cmp.Compare(float64(whole), f)
}
