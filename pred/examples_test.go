package pred_test

import (
	"testing"

	"vellum/api"
	"vellum/code"
	"vellum/lit"
	"vellum/pred"
)

// The chapter's first and second example.
func TestExamplesOfWorth(t *testing.T) {
	row := someRow()
	zero := someRow()
	zero[colA], zero[colB] = lit.Int(2), lit.Float(0)
	for text, want := range map[string]api.Value{"a + 1 < 5 and c is not null": lit.Bool(true), "a = null": lit.Null(), "true or a / 0 = 1": lit.Bool(true)} {
		checkEval(t, parsed(t, text), row, want)
	}
	checkNoEval(t, parsed(t, "a / 0 = 1 or true"), row, api.ErrZero)
	checkEval(t, parsed(t, "a < 2.5"), zero, lit.Bool(true))
	checkEval(t, parsed(t, "b = -0.0"), zero, lit.Bool(true))
	row[colA] = lit.Int(maxInt)
	checkNoEval(t, parsed(t, "a + 1"), row, api.ErrRange)
	checkNoParse(t, "c + 1", api.ErrType)
	checkNoParse(t, "a < b < c", api.ErrPred)
}

// The chapter's third example.
func TestExampleOfBounds(t *testing.T) {
	e := parsed(t, "a = 5 and b > 1.0 and b <= 2e+00")
	five, one, two := lit.Int(5), lit.Float(1), lit.Float(2)
	checkBounds(t, e, []int{colA, colB}, api.Range{Lo: key(five, one) + behind, Hi: key(five, two) + behind})
	checkBounds(t, e, []int{colB}, api.Range{Lo: key(one) + behind, Hi: key(two) + behind})
	r, err := pred.Bounds(table(), e, []int{colC})
	if err != api.OK {
		t.Fatal(err)
	}
	for _, v := range values() {
		if !code.Has(r, key(v)) || !code.Has(r, key(v, v)) {
			t.Errorf("over c: the key of %v is not in %q", v, ends(r))
		}
	}
}
