// Package num reckons with numbers as floats.
package num

import (
	"math"

	"vellum/api"
	"vellum/lit"
	"vellum/value"
)

// Float is an int or a float as a float; each of these can be cast to one.
func Float(v api.Value) float64 {
	f, _ := value.Cast(v, api.KindFloat)
	return f.F
}

// Told is what was reckoned, as a value: NaNs are plain, since machines make them of various bits; -0 stays what it is.
func Told(f float64) api.Value {
	if math.IsNaN(f) {
		return value.Plain(lit.Float(f))
	}
	return lit.Float(f)
}
