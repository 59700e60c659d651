// Package lit makes values of what Go has for them.
package lit

import (
	"math"

	"vellum/api"
)

// Null is null.
func Null() api.Value { return api.Value{Kind: api.KindNull} }

// Bool is a bool.
func Bool(b bool) api.Value {
	v := api.Value{Kind: api.KindBool}
	if b {
		v.N = 1
	}
	return v
}

// Int is an int.
func Int(n int64) api.Value { return api.Value{Kind: api.KindInt, N: n} }

// Float is a float.
func Float(f float64) api.Value { return api.Value{Kind: api.KindFloat, F: f} }

// Bits is the float that has these bits: which NaN it is, and which 0, no number says.
func Bits(b uint64) api.Value { return Float(math.Float64frombits(b)) }

// Text is a text.
func Text(s string) api.Value { return api.Value{Kind: api.KindText, S: s} }

// Bytes is bytes.
func Bytes(s string) api.Value { return api.Value{Kind: api.KindBytes, S: s} }
