package lit_test

import (
	"math"
	"testing"

	"vellum/api"
	"vellum/lit"
	"vellum/value"
)

// Each value has its kind and its own field, and the others zero.
func TestMade(t *testing.T) {
	for _, c := range []struct{ got, want api.Value }{
		{lit.Null(), api.Value{}},
		{lit.Bool(false), api.Value{Kind: api.KindBool}},
		{lit.Bool(true), api.Value{Kind: api.KindBool, N: 1}},
		{lit.Int(math.MinInt64), api.Value{Kind: api.KindInt, N: math.MinInt64}},
		{lit.Float(1.5), api.Value{Kind: api.KindFloat, F: 1.5}},
		{lit.Bits(1 << 63), api.Value{Kind: api.KindFloat, F: math.Copysign(0, -1)}},
		{lit.Text("a"), api.Value{Kind: api.KindText, S: "a"}},
		{lit.Bytes("\xff"), api.Value{Kind: api.KindBytes, S: "\xff"}},
	} {
		if !value.Same(c.got, c.want) {
			t.Errorf("%+v, want %+v", c.got, c.want)
		}
	}
}
