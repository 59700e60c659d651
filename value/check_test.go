package value_test

import (
	"math"
	"strings"
	"testing"

	"vellum/api"
	"vellum/lit"
	"vellum/value"
)

// Va1: values that may be.
func TestCheckGood(t *testing.T) {
	for _, v := range good() {
		if e := value.Check(v); e != api.OK {
			t.Errorf("Check(%v) = %d, want OK", shown(v), e)
		}
	}
	full := strings.Repeat("a", api.MaxRow)
	for _, v := range []api.Value{lit.Text(full), lit.Bytes(full), lit.Bytes(full[1:] + "\xff")} {
		if e := value.Check(v); e != api.OK {
			t.Errorf("Check of MaxRow bytes = %d, want OK", e)
		}
	}
}

// Va1: values that may not be; another reason goes ahead of the length.
func TestCheckWrong(t *testing.T) {
	for want, list := range wrong() {
		for _, v := range list {
			if e := value.Check(v); e != want {
				t.Errorf("Check(%v) = %d, want %d", shown(v), e, want)
			}
		}
	}
}

// Va1: Same holds all four fields against each other, whatever they are.
func TestSame(t *testing.T) {
	values := all()
	for i, a := range values {
		for j, b := range values {
			if want := identical(a, b); value.Same(a, b) != want {
				t.Errorf("Same(%v, %v) = %v (values %d, %d)", shown(a), shown(b), !want, i, j)
			}
		}
	}
	apart := []api.Value{
		{}, {Kind: 1}, {N: 1}, {F: 1}, {S: "a"}, {F: math.Float64frombits(negativeZero)},
		{Kind: api.KindFloat, F: math.Float64frombits(plainNaN)}, {Kind: api.KindFloat, F: math.Float64frombits(quietNaN)},
	}
	for i, a := range apart {
		for j, b := range apart {
			if value.Same(a, b) != (i == j) {
				t.Errorf("Same(%v, %v) = %v", shown(a), shown(b), i != j)
			}
		}
	}
}

// Va4: -0 and the NaNs of floats are made plain, and nothing else is changed.
func TestPlain(t *testing.T) {
	for _, v := range good() {
		want := v
		if v.Kind == api.KindFloat && v.F == 0 {
			want = lit.Bits(0)
		}
		if v.Kind == api.KindFloat && v.F != v.F {
			want = lit.Bits(plainNaN)
		}
		if got := value.Plain(v); !identical(got, want) {
			t.Errorf("Plain(%v) = %v, want %v", shown(v), shown(got), shown(want))
		}
	}
}

// Va4: fields that may not be stay as they are.
func TestPlainWrong(t *testing.T) {
	for _, list := range wrong() {
		for _, v := range list {
			if v.Kind == api.KindFloat {
				continue
			}
			if got := value.Plain(v); !identical(got, v) {
				t.Errorf("Plain(%v) = %v, want it as it is", shown(v), shown(got))
			}
		}
	}
	odd := api.Value{Kind: api.KindFloat, N: 7, F: math.Float64frombits(negativeZero), S: "a"}
	if got := value.Plain(odd); !identical(got, api.Value{Kind: api.KindFloat, N: 7, S: "a"}) {
		t.Errorf("Plain(%v) = %v, want F alone changed", shown(odd), shown(got))
	}
}
