package value_test

import (
	"math"
	"testing"

	"vellum/api"
	"vellum/lit"
	"vellum/value"
)

// The chapter's first example: the order and the numbers.
func TestExampleOrder(t *testing.T) {
	if c := value.Compare(lit.Int(5), lit.Float(4)); c != -1 {
		t.Errorf("Compare(int 5, float 4) = %d, want -1", c)
	}
	if c, ok := value.Numbers(lit.Int(5), lit.Float(4)); c != 1 || !ok {
		t.Errorf("Numbers(int 5, float 4) = %d, %v, want 1, true", c, ok)
	}
	if c, ok := value.Numbers(lit.Int(1<<53+1), lit.Float(1<<53)); c != 1 || !ok {
		t.Errorf("Numbers(int 2^53 + 1, float 2^53) = %d, %v, want 1, true", c, ok)
	}
	if c := value.Compare(lit.Float(math.NaN()), lit.Float(math.Inf(1))); c != 1 {
		t.Errorf("Compare(NaN, Infinity) = %d, want 1", c)
	}
	if c := value.Compare(lit.Bits(negativeZero), lit.Float(0)); c != 0 {
		t.Errorf("Compare(-0, +0) = %d, want 0", c)
	}
	if value.Same(lit.Bits(negativeZero), lit.Float(0)) {
		t.Error("Same(-0, +0) = true, want false")
	}
}

// The chapter's second example: texts and literals.
func TestExampleTexts(t *testing.T) {
	for want, v := range map[string]api.Value{"1e-01": lit.Float(0.1), "1.5e+00": lit.Float(1.5), "-0e+00": lit.Bits(negativeZero)} {
		if s, e := value.Text(v); s != want || e != api.OK {
			t.Errorf("Text(%v) = %q, %d, want %q", shown(v), s, e, want)
		}
	}
	checkParse(t, "0.10", lit.Float(0.1))
	checkParse(t, "1e-400", lit.Bits(0))
	for _, s := range []string{"5.", "05", "1e400"} {
		checkNoParse(t, s, api.ErrLiteral)
	}
}

// The chapter's third example: casts.
func TestExampleCasts(t *testing.T) {
	checkNoCasts(t, api.KindInt, []api.Value{lit.Float(2.5)})
	checkCasts(t, []cast{
		{lit.Int(1<<53 + 1), api.KindFloat, lit.Float(1 << 53)},
		{lit.Text("true"), api.KindBool, lit.Bool(true)},
	})
	if s, e := value.Text(lit.Text("it's")); s != "'it''s'" || e != api.OK {
		t.Errorf("Text(it's) = %q, %d", s, e)
	}
}
