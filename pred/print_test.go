package pred_test

import (
	"math"
	"strings"
	"testing"

	"vellum/api"
	"vellum/lit"
	"vellum/pred"
)

func checkPrint(t *testing.T, e api.Expr, want string) {
	t.Helper()
	if s, err := pred.Print(table(), e); s != want || err != api.OK {
		t.Errorf("Print(%s) = %q, %d, want %q", show(e), s, err, want)
	}
}

// Pr3: values, as they stand alone.
func TestPrintValues(t *testing.T) {
	for want, v := range map[string]api.Value{
		"null": lit.Null(), "true": lit.Bool(true), "false": lit.Bool(false), "0": lit.Int(0), "12": lit.Int(12), "-12": lit.Int(-12), "9223372036854775807": lit.Int(maxInt), "-9223372036854775807": lit.Int(minInt + 1), "-9223372036854775807 - 1": lit.Int(minInt),
		"0e+00": lit.Float(0), "-0e+00": lit.Bits(negativeZero), "1.5e+00": lit.Float(1.5), "-1.5e-07": lit.Float(-1.5e-7), "NaN": lit.Bits(signedNaN), "Infinity": lit.Float(math.Inf(1)), "-Infinity": lit.Float(math.Inf(-1)), "-9.223372036854776e+18": lit.Float(-1 << 63),
		"''": lit.Text(""), "'it''s'": lit.Text("it's"), "'-5'": lit.Text("-5"), "x''": lit.Bytes(""), "x'2d00ff'": lit.Bytes("-\x00\xff"),
	} {
		checkPrint(t, val(v), want)
	}
	for i, c := range table().Columns {
		checkPrint(t, col(i), c.Name)
	}
}

// Pr3: each operator alone, and its blanks.
func TestPrintOperators(t *testing.T) {
	for _, op := range append(numberOps, compareOps...) {
		checkPrint(t, bin(col(colA), op, num(1)), "a "+op+" 1")
	}
	for _, op := range logicOps {
		checkPrint(t, bin(col(colD), op, truth(true)), "d "+op+" true")
	}
	checkPrint(t, un("-", col(colA)), "-a")
	checkPrint(t, un("not", col(colD)), "not d")
	checkPrint(t, un("is null", col(colA)), "a is null")
	checkPrint(t, un("is not null", col(colA)), "a is not null")
	checkPrint(t, in(col(colA), num(1)), "a in (1)")
	checkPrint(t, in(col(colA), num(1), num(-2), null()), "a in (1, -2, null)")
}

// Pr3: as few parentheses as can be.
func TestPrintParentheses(t *testing.T) {
	a, b, d := col(colA), col(colB), col(colD)
	and := func(x, y api.Expr) api.Expr { return bin(x, "and", y) }
	or := func(x, y api.Expr) api.Expr { return bin(x, "or", y) }
	not := func(x api.Expr) api.Expr { return un("not", x) }
	minus := func(x api.Expr) api.Expr { return un("-", x) }
	isNull := func(x api.Expr) api.Expr { return un("is null", x) }
	same := func(x, y api.Expr) api.Expr { return bin(x, "=", y) }
	for _, c := range []struct {
		e    api.Expr
		want string
	}{
		{or(or(d, d), d), "d or d or d"}, {or(d, or(d, d)), "d or (d or d)"}, {or(and(d, d), and(d, d)), "d and d or d and d"}, {and(or(d, d), or(d, d)), "(d or d) and (d or d)"},
		{and(and(d, d), d), "d and d and d"}, {and(d, and(d, d)), "d and (d and d)"}, {or(d, and(d, d)), "d or d and d"},
		{not(not(d)), "not not d"}, {not(and(d, d)), "not (d and d)"}, {and(not(d), not(d)), "not d and not d"}, {or(not(d), d), "not d or d"}, {not(or(d, d)), "not (d or d)"},
		{not(same(a, b)), "not a = b"}, {same(not(d), d), "(not d) = d"}, {same(d, not(d)), "d = (not d)"}, {not(isNull(a)), "not a is null"}, {isNull(not(d)), "(not d) is null"}, {not(in(a, b)), "not a in (b)"},
		{same(same(a, b), d), "(a = b) = d"}, {same(d, same(a, b)), "d = (a = b)"}, {bin(bin(a, "<", b), "<>", d), "(a < b) <> d"}, {isNull(isNull(a)), "(a is null) is null"}, {same(isNull(a), d), "(a is null) = d"}, {same(d, un("is not null", a)), "d = (a is not null)"},
		{in(in(a, b), d, or(d, d)), "(a in (b)) in (d, d or d)"}, {isNull(in(a, b)), "(a in (b)) is null"}, {in(same(a, b), same(a, b), isNull(a), not(d)), "(a = b) in (a = b, a is null, not d)"}, {same(in(a, b), d), "(a in (b)) = d"}, {in(or(d, d), d), "(d or d) in (d)"},
		{same(bin(a, "+", b), bin(a, "*", b)), "a + b = a * b"}, {isNull(bin(a, "+", b)), "a + b is null"}, {in(bin(a, "-", b), bin(a, "-", b)), "a - b in (a - b)"}, {same(minus(a), minus(b)), "-a = -b"}, {isNull(minus(a)), "-a is null"},
		{bin(bin(a, "+", b), "-", a), "a + b - a"}, {bin(a, "+", bin(b, "-", a)), "a + (b - a)"}, {bin(a, "-", bin(b, "+", a)), "a - (b + a)"}, {bin(bin(a, "*", b), "+", bin(a, "/", b)), "a * b + a / b"}, {bin(bin(a, "+", b), "*", bin(a, "+", b)), "(a + b) * (a + b)"},
		{bin(bin(a, "*", b), "/", a), "a * b / a"}, {bin(a, "*", bin(b, "/", a)), "a * (b / a)"}, {bin(bin(a, "%", a), "%", a), "a % a % a"}, {bin(a, "%", bin(a, "%", a)), "a % (a % a)"},
		{minus(minus(a)), "- -a"}, {minus(minus(minus(a))), "- - -a"}, {minus(bin(a, "*", b)), "-(a * b)"}, {bin(minus(a), "*", minus(b)), "-a * -b"}, {bin(minus(a), "-", minus(b)), "-a - -b"}, {minus(bin(minus(a), "+", b)), "-(-a + b)"},
		{minus(num(5)), "-5"}, {minus(num(-5)), "- -5"}, {minus(flo(-1.5)), "- -1.5e+00"}, {minus(minus(num(-5))), "- - -5"}, {minus(flo(math.Inf(-1))), "- -Infinity"}, {minus(val(lit.Bits(negativeZero))), "- -0e+00"}, {minus(val(lit.Bits(signedNaN))), "-NaN"},
		{bin(num(-5), "-", num(-5)), "-5 - -5"}, {bin(num(-5), "*", num(-5)), "-5 * -5"}, {isNull(num(-5)), "-5 is null"}, {in(num(-5), num(-5)), "-5 in (-5)"}, {bin(a, "<", num(-5)), "a < -5"},
		{minus(num(minInt)), "-(-9223372036854775807 - 1)"}, {bin(num(minInt), "+", a), "-9223372036854775807 - 1 + a"}, {bin(a, "-", num(minInt)), "a - (-9223372036854775807 - 1)"}, {bin(num(minInt), "*", a), "(-9223372036854775807 - 1) * a"}, {bin(a, "%", num(minInt)), "a % (-9223372036854775807 - 1)"},
		{same(a, num(minInt)), "a = -9223372036854775807 - 1"}, {isNull(num(minInt)), "-9223372036854775807 - 1 is null"}, {in(num(minInt), num(minInt), a), "-9223372036854775807 - 1 in (-9223372036854775807 - 1, a)"},
		{minus(null()), "-null"}, {minus(minus(null())), "- -null"},
	} {
		checkPrint(t, c.e, c.want)
	}
}

// Pr3: MaxText bytes, and one more, of one value and of many.
func TestPrintLong(t *testing.T) {
	quoted := strings.Repeat("'", api.MaxRow-1)
	full := in(val(lit.Text(quoted)), val(lit.Text(quoted)))
	// Two texts of 2 * MaxRow bytes each, and " in ()" between and behind them.
	over := 4*api.MaxRow + len(" in ()") - api.MaxText
	cut := over/2 + over%2
	for _, c := range []struct {
		first, second int
		want          api.Errno
	}{{cut, 0, api.OK}, {cut - 1, 0, api.ErrLong}, {0, cut, api.OK}, {0, cut - 1, api.ErrLong}, {0, 0, api.ErrLong}} {
		full.Kids[0].Value.S, full.Kids[1].Value.S = quoted[c.first:], quoted[c.second:]
		s, err := pred.Print(table(), full)
		if err != c.want || err != api.OK && s != "" || err == api.OK && len(s) > api.MaxText {
			t.Errorf("Print of texts cut by %d, %d: %d bytes, %d, want error %d", c.first, c.second, len(s), err, c.want)
		}
	}
	full.Kids[0].Value.S, full.Kids[1].Value.S = quoted[cut:], quoted
	if s := printed(t, full); len(s) != api.MaxText {
		t.Errorf("the longest text has %d bytes, want %d", len(s), api.MaxText)
	}
	full.Kids[0].Value.S = quoted[cut:] + "a"
	if s, err := pred.Print(table(), full); err != api.ErrLong || s != "" {
		t.Errorf("Print of MaxText + 1 bytes = %d bytes, %d, want ErrLong", len(s), err)
	}
	many := wide(api.MaxNodes)
	for i := range many.Kids {
		many.Kids[i] = val(lit.Bytes(strings.Repeat("a", api.MaxRow)))
	}
	if s, err := pred.Print(table(), many); err != api.ErrLong || s != "" {
		t.Errorf("Print of 1023 values of MaxRow bytes = %d bytes, %d, want ErrLong", len(s), err)
	}
}
