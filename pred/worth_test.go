package pred_test

import (
	"cmp"
	"math"
	"strings"
	"testing"

	"vellum/api"
	"vellum/lit"
	"vellum/pred"
	"vellum/value"
)

func failing() api.Expr { return bin(bin(num(1), "/", num(0)), "=", num(1)) }

func tooGreat() api.Expr { return bin(bin(num(maxInt), "+", num(1)), "=", num(1)) }

// Pr2: null with -, arithmetic and comparisons, behind both kids.
func TestNulls(t *testing.T) {
	checkEval(t, un("-", null()), nulls(), lit.Null())
	checkEval(t, un("-", col(colA)), nulls(), lit.Null())
	checkEval(t, un("not", null()), nulls(), lit.Null())
	for _, op := range append(numberOps, compareOps...) {
		for _, e := range []api.Expr{num(0), num(1), null()} {
			checkEval(t, bin(e, op, null()), nulls(), lit.Null())
			checkEval(t, bin(null(), op, e), nulls(), lit.Null())
			checkEval(t, bin(col(colA), op, e), nulls(), lit.Null())
		}
		checkNoEval(t, bin(null(), op, bin(num(1), "/", num(0))), nulls(), api.ErrZero)
		checkNoEval(t, bin(bin(num(1), "/", num(0)), op, null()), nulls(), api.ErrZero)
		checkNoEval(t, bin(bin(num(maxInt), "+", num(1)), op, bin(num(1), "/", num(0))), nulls(), api.ErrRange)
		checkNoEval(t, bin(bin(num(1), "/", num(0)), op, bin(num(maxInt), "+", num(1))), nulls(), api.ErrZero)
	}
	for _, v := range values() {
		checkEval(t, bin(val(v), "=", null()), nulls(), lit.Null())
		checkEval(t, bin(null(), "<>", val(v)), nulls(), lit.Null())
		checkEval(t, un("is null", val(v)), nulls(), lit.Bool(v.Kind == api.KindNull))
		checkEval(t, un("is not null", val(v)), nulls(), lit.Bool(v.Kind != api.KindNull))
	}
	checkNoEval(t, un("is null", failing()), nulls(), api.ErrZero)
	checkNoEval(t, un("is not null", tooGreat()), nulls(), api.ErrRange)
	checkNoEval(t, un("not", failing()), nulls(), api.ErrZero)
	checkNoEval(t, un("-", bin(num(1), "%", num(0))), nulls(), api.ErrZero)
}

// Pr2: comparisons by Numbers of two numbers, else by Compare.
func TestComparisons(t *testing.T) {
	for _, a := range values() {
		for _, b := range values() {
			c, ok := value.Numbers(a, b)
			if !ok && a.Kind != b.Kind || a.Kind == api.KindNull || b.Kind == api.KindNull {
				continue
			}
			if !ok {
				c = value.Compare(a, b)
			}
			for op, want := range map[string]bool{"=": c == 0, "<>": c != 0, "<": c < 0, "<=": c <= 0, ">": c > 0, ">=": c >= 0} {
				checkEval(t, bin(val(a), op, val(b)), nulls(), lit.Bool(want))
			}
			checkEval(t, in(val(a), val(b)), nulls(), lit.Bool(c == 0))
		}
	}
	for text, want := range map[string]bool{
		"9007199254740993 > 9007199254740992.0": true, "9007199254740993 = 9007199254740992.0": false, "1 = 1.0": true, "NaN = NaN": true, "NaN > Infinity": true, "1 < NaN": true,
		"0.0 = -0.0": true, "0 = -0.0": true, "-0.0 < 0.0": false, "9223372036854775807 < Infinity": true, "9223372036854775807 < 9223372036854775808.0": true,
		"false < true": true, "'a' < 'ab'": true, "'B' < 'a'": true, "x'ff' > x'00ff'": true, "'é' > 'z'": true, "'' <= ''": true,
	} {
		checkEval(t, parsed(t, text), nulls(), lit.Bool(want))
	}
}

// Pr2: and, or, not, by tables of false, null and true.
func TestLogic(t *testing.T) {
	states := []api.Value{lit.Bool(false), lit.Null(), lit.Bool(true)}
	for i, a := range states {
		for j, b := range states {
			checkEval(t, bin(val(a), "and", val(b)), nulls(), states[min(i, j)])
			checkEval(t, bin(val(a), "or", val(b)), nulls(), states[max(i, j)])
			row := rowOf(lit.Null(), lit.Null(), lit.Null(), a, lit.Null())
			checkEval(t, bin(col(colD), "and", val(b)), row, states[min(i, j)])
			checkEval(t, bin(val(b), "or", col(colD)), row, states[max(i, j)])
		}
		checkEval(t, un("not", val(a)), nulls(), states[2-i])
	}
}

// Pr2: what is not looked at tells no error; all else does.
func TestNotLookedAt(t *testing.T) {
	checkEval(t, bin(truth(false), "and", failing()), nulls(), lit.Bool(false))
	checkEval(t, bin(truth(true), "or", failing()), nulls(), lit.Bool(true))
	for _, e := range []api.Expr{truth(true), null()} {
		checkNoEval(t, bin(e, "and", failing()), nulls(), api.ErrZero)
		checkNoEval(t, bin(tooGreat(), "and", e), nulls(), api.ErrRange)
	}
	for _, e := range []api.Expr{truth(false), null()} {
		checkNoEval(t, bin(e, "or", failing()), nulls(), api.ErrZero)
		checkNoEval(t, bin(tooGreat(), "or", e), nulls(), api.ErrRange)
	}
	checkNoEval(t, bin(failing(), "and", truth(false)), nulls(), api.ErrZero)
	checkNoEval(t, bin(failing(), "or", truth(true)), nulls(), api.ErrZero)
	checkNoEval(t, bin(failing(), "or", tooGreat()), nulls(), api.ErrZero)
	checkNoEval(t, bin(tooGreat(), "and", failing()), nulls(), api.ErrRange)
}

// Pr2: in, from the left till one is the same.
func TestIn(t *testing.T) {
	zero, great := bin(num(1), "/", num(0)), bin(num(maxInt), "+", num(1))
	yes, no, unknown := lit.Bool(true), lit.Bool(false), lit.Null()
	checkEval(t, in(num(1), num(1)), nulls(), yes)
	checkEval(t, in(num(1), num(2)), nulls(), no)
	checkEval(t, in(num(1), num(2), num(3), num(1)), nulls(), yes)
	checkEval(t, in(num(1), flo(1)), nulls(), yes)
	checkEval(t, in(flo(0), val(lit.Bits(negativeZero))), nulls(), yes)
	checkEval(t, in(flo(math.NaN()), val(lit.Bits(signedNaN))), nulls(), yes)
	checkEval(t, in(num(1), null()), nulls(), unknown)
	checkEval(t, in(num(1), null(), num(1)), nulls(), yes)
	checkEval(t, in(num(1), num(1), null()), nulls(), yes)
	checkEval(t, in(num(1), num(2), null()), nulls(), unknown)
	checkEval(t, in(num(1), null(), num(2)), nulls(), unknown)
	checkEval(t, in(null(), num(2)), nulls(), unknown)
	checkEval(t, in(null(), null()), nulls(), unknown)
	checkEval(t, in(col(colA), num(3)), nulls(), unknown)
	checkEval(t, in(col(colA), num(3)), someRow(), yes)
	checkEval(t, in(num(1), num(1), zero), nulls(), yes)
	checkEval(t, in(num(1), num(2), num(1), zero), nulls(), yes)
	checkNoEval(t, in(num(1), num(2), zero, num(1)), nulls(), api.ErrZero)
	checkNoEval(t, in(num(1), null(), zero), nulls(), api.ErrZero)
	checkNoEval(t, in(null(), num(1), zero), nulls(), api.ErrZero)
	checkNoEval(t, in(zero, great), nulls(), api.ErrZero)
	checkNoEval(t, in(num(1), great, zero), nulls(), api.ErrRange)
	checkNoEval(t, in(great, num(1)), nulls(), api.ErrRange)
}

// Pr2: Takes is true of true alone; kinds other than bool and null are refused, whatever they are worth.
func TestTakes(t *testing.T) {
	for text, want := range map[string]bool{
		"true": true, "false": false, "null": false, "-null": false, "null + null": false, "a = 3": true, "a = 4": false, "d": true, "not d": false, "d or null": true, "d and null": false, "c = null": false, "c in ('x', null)": true, "c in ('y', null)": false, "true or 1 / 0 = 1": true,
	} {
		if takes, err := pred.Takes(table(), parsed(t, text), someRow()); takes != want || err != api.OK {
			t.Errorf("Takes(%q) = %v, %d, want %v", text, takes, err, want)
		}
	}
	for text, want := range map[string]api.Errno{
		"1": api.ErrType, "a": api.ErrType, "1.5": api.ErrType, "'true'": api.ErrType, "x'01'": api.ErrType, "a + null": api.ErrType, "1 / 0": api.ErrType, "1 / 0 = 1": api.ErrZero, "a / (a - 3) = 1 or true": api.ErrZero, "9223372036854775807 + a > 0": api.ErrRange,
	} {
		if takes, err := pred.Takes(table(), parsed(t, text), someRow()); takes || err != want {
			t.Errorf("Takes(%q) = %v, %d, want error %d", text, takes, err, want)
		}
	}
}

// wrongRows is rows that may not be ones of table, by what layer 3 tells of them.
func wrongRows() map[api.Errno][][]api.Value {
	with := func(i int, v api.Value) []api.Value {
		row := someRow()
		row[i] = v
		return row
	}
	return map[api.Errno][][]api.Value{
		api.ErrArg:    {nil, {}, someRow()[1:], append(someRow(), lit.Null())},
		api.ErrNull:   {with(colK, lit.Null())},
		api.ErrColumn: {with(colA, lit.Float(1)), with(colC, lit.Bytes("x")), with(colK, lit.Bool(true))},
		api.ErrValue:  {with(colA, api.Value{Kind: 9}), with(colC, lit.Text("\xff")), with(colB, api.Value{N: 1})},
		api.ErrLong:   {with(colC, lit.Text(strings.Repeat("a", api.MaxRow+1)))},
	}
}

// Pr2: a row that may not be goes behind the expression's kind, and ahead of what it is worth, also where the expression does not look at it.
func TestWrongRows(t *testing.T) {
	for want, rows := range wrongRows() {
		for _, row := range rows {
			for _, e := range []api.Expr{truth(true), failing(), col(colD)} {
				checkNoEval(t, e, row, want)
				if takes, err := pred.Takes(table(), e, row); takes || err != want {
					t.Errorf("Takes(%s, %.80v) = %v, %d, want error %d", show(e), row, takes, err, want)
				}
			}
			checkNoEval(t, api.Expr{}, row, api.ErrExpr)
			checkNoEval(t, un("not", num(1)), row, api.ErrType)
			if _, err := pred.Takes(table(), num(1), row); err != api.ErrType {
				t.Errorf("Takes of an int = %d, want ErrType", err)
			}
			checkNoEval(t, num(1), row, want)
		}
	}
}

// plainWorth is what an expression is worth, written anew: each node by the chapter's words.
func plainWorth(e api.Expr, row []api.Value) (api.Value, api.Errno) {
	if e.Kind == api.ExprValue {
		return e.Value, api.OK
	}
	if e.Kind == api.ExprColumn {
		return row[e.Column], api.OK
	}
	var kids []api.Value
	for i, kid := range e.Kids {
		if i == 1 && (e.Op == "and" && kids[0] == lit.Bool(false) || e.Op == "or" && kids[0] == lit.Bool(true)) {
			return kids[0], api.OK
		}
		v, err := plainWorth(kid, row)
		if err != api.OK {
			return api.Value{}, err
		}
		kids = append(kids, v)
		if e.Kind == api.ExprIn && i > 0 {
			if c, known := plainCompare(kids[0], v); known && c == 0 {
				return lit.Bool(true), api.OK
			}
		}
	}
	some := func(want api.Value) bool {
		for _, v := range kids {
			if v.Kind == want.Kind && v.N == want.N {
				return true
			}
		}
		return false
	}
	switch {
	case e.Op == "is null", e.Op == "is not null":
		return lit.Bool((kids[0].Kind == api.KindNull) == (e.Op == "is null")), api.OK
	case e.Op == "and" && some(lit.Bool(false)), e.Op == "or" && some(lit.Bool(true)):
		return lit.Bool(e.Op == "or"), api.OK
	case some(lit.Null()):
		return lit.Null(), api.OK
	case e.Kind == api.ExprIn:
		return lit.Bool(false), api.OK
	case e.Op == "and", e.Op == "or":
		return lit.Bool(e.Op == "and"), api.OK
	case e.Op == "not":
		return lit.Bool(kids[0].N == 0), api.OK
	case len(kids) == 1 && kids[0].Kind == api.KindInt:
		return plainNumber("-", lit.Int(0), kids[0])
	case len(kids) == 1:
		return plainly(math.Float64frombits(math.Float64bits(kids[0].F) ^ negativeZero)), api.OK
	case strings.Contains("+-*/%", e.Op):
		return plainNumber(e.Op, kids[0], kids[1])
	}
	c, _ := plainCompare(kids[0], kids[1])
	holds := map[string][]int{"=": {0}, "<>": {-1, 1}, "<": {-1}, "<=": {-1, 0}, ">": {1}, ">=": {0, 1}}
	for _, place := range holds[e.Op] {
		if c == place {
			return lit.Bool(true), api.OK
		}
	}
	return lit.Bool(false), api.OK
}

func plainNumber(op string, a, b api.Value) (api.Value, api.Errno) {
	if a.Kind == api.KindInt && b.Kind == api.KindInt {
		z, err := wholeOf(op, a.N, b.N)
		if err != api.OK {
			return api.Value{}, err
		}
		return lit.Int(z.Int64()), api.OK
	}
	return plainly(floatFrom(op, floatOf(a), floatOf(b))), api.OK
}

// plainCompare is how two values stand; false, if one is null.
func plainCompare(a, b api.Value) (int, bool) {
	switch {
	case a.Kind == api.KindNull || b.Kind == api.KindNull:
		return 0, false
	case a.Kind == api.KindText || a.Kind == api.KindBytes:
		return strings.Compare(a.S, b.S), true
	case a.Kind != api.KindFloat && b.Kind != api.KindFloat:
		return cmp.Compare(a.N, b.N), true
	}
	rank := func(v api.Value) int {
		switch {
		case v.F != v.F:
			return 2
		case math.IsInf(v.F, 0):
			return int(math.Copysign(1, v.F))
		}
		return 0
	}
	if rank(a) != 0 || rank(b) != 0 {
		return cmp.Compare(rank(a), rank(b)), true
	}
	x, y := exact(a.F), exact(b.F)
	if a.Kind == api.KindInt {
		x.SetInt64(a.N)
	}
	if b.Kind == api.KindInt {
		y.SetInt64(b.N)
	}
	return x.Cmp(y), true
}

// Pr2: expressions at random, of all kinds, held against what is reckoned anew.
func TestWorthAtRandom(t *testing.T) {
	m := newMaker(4)
	met := map[api.Errno]int{}
	for range 15000 {
		kind := 1 + m.IntN(5)
		if m.IntN(2) == 0 {
			kind = api.KindBool
		}
		e, row := m.expr(kind, 6), m.row()
		want, err := plainWorth(e, row)
		met[err]++
		if err != api.OK {
			checkNoEval(t, e, row, err)
		} else {
			checkEval(t, e, row, want)
		}
		if kind != api.KindBool {
			continue
		}
		takes, told := pred.Takes(table(), e, row)
		if told != err || takes != (err == api.OK && identical(want, lit.Bool(true))) {
			t.Errorf("Takes(%s) = %v, %d, want %v, %d", show(e), takes, told, want, err)
		}
	}
	for _, err := range []api.Errno{api.OK, api.ErrRange, api.ErrZero} {
		if met[err] < 200 {
			t.Errorf("error %d came %d times: too few to tell anything", err, met[err])
		}
	}
}
