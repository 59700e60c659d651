package pred_test

import (
	"math"
	"strings"
	"testing"

	"vellum/api"
	"vellum/lit"
	"vellum/pred"
)

func checkParse(t *testing.T, s string, want api.Expr) {
	t.Helper()
	if e, err := pred.Parse(table(), s); err != api.OK || !alike(e, want) {
		t.Errorf("Parse(%.80q) = %s, %d, want %s", s, show(e), err, show(want))
	}
}

func checkNoParse(t *testing.T, s string, want api.Errno) {
	t.Helper()
	if e, err := pred.Parse(table(), s); err != want || !zero(e) {
		t.Errorf("Parse(%.80q) = %.200s, %d, want error %d", s, show(e), err, want)
	}
}

// Pr3: values are what layer 1 takes, but that a - ahead is the operator.
func TestParseValues(t *testing.T) {
	for s, want := range map[string]api.Expr{
		"null": null(), "true": truth(true), "false": truth(false), "0": num(0), "12": num(12), "9223372036854775807": num(maxInt),
		"0.0": flo(0), "1.50": flo(1.5), "1e5": flo(1e5), "1e+5": flo(1e5), "1.5e-07": flo(1.5e-7), "2e+00": flo(2), "NaN": val(lit.Bits(plainNaN)), "Infinity": flo(math.Inf(1)), "1e-400": flo(0),
		"''": val(lit.Text("")), "'it''s'": val(lit.Text("it's")), "'a or b = (\n'": val(lit.Text("a or b = (\n")), "x''": val(lit.Bytes("")), "x'00ff'": val(lit.Bytes("\x00\xff")),
		"-5": un("-", num(5)), "- 5": un("-", num(5)), "--5": un("-", un("-", num(5))), "-0": un("-", num(0)), "-0.0": un("-", flo(0)), "-Infinity": un("-", flo(math.Inf(1))), "-NaN": un("-", val(lit.Bits(plainNaN))), "-1e-5": un("-", flo(1e-5)), "-null": un("-", null()),
		"a": col(colA), " \t\r\n k \n": col(colK), "-a": un("-", col(colA)),
	} {
		checkParse(t, s, want)
		checkParse(t, "("+s+")", want)
		checkParse(t, " ( ( "+s+") )", want)
	}
}

// Pr3: each operator; how strongly each holds together; from the left.
func TestParseOperators(t *testing.T) {
	a, b, d := col(colA), col(colB), col(colD)
	for _, op := range append(numberOps, compareOps...) {
		want := bin(a, op, num(1))
		checkParse(t, "a "+op+" 1", want)
		checkParse(t, "a"+op+"1", want)
		checkParse(t, "(a)\n"+op+"\t(1)", want)
	}
	for s, want := range map[string]api.Expr{
		"d and d": bin(d, "and", d), "d or d": bin(d, "or", d), "not d": un("not", d), "not(d)": un("not", d), "a is null": un("is null", a), "a is not null": un("is not null", a), "a is\nnot\tnull": un("is not null", a),
		"a in (1)": in(a, num(1)), "a in(1,2 , b)": in(a, num(1), num(2), b), "(d)and(d)": bin(d, "and", d), "a in ((1), (2))": in(a, num(1), num(2)),
		"1 + 2 * 3 = 7": bin(bin(num(1), "+", bin(num(2), "*", num(3))), "=", num(7)), "1 - 2 - 3": bin(bin(num(1), "-", num(2)), "-", num(3)), "1 - (2 - 3)": bin(num(1), "-", bin(num(2), "-", num(3))), "8 / 4 * 2 % 3": bin(bin(bin(num(8), "/", num(4)), "*", num(2)), "%", num(3)),
		"d or d and not d": bin(d, "or", bin(d, "and", un("not", d))), "d and d or d": bin(bin(d, "and", d), "or", d), "not d and d": bin(un("not", d), "and", d), "not a = 1": un("not", bin(a, "=", num(1))), "not a is null": un("not", un("is null", a)), "not a in (1)": un("not", in(a, num(1))), "not not d": un("not", un("not", d)),
		"-a * b": bin(un("-", a), "*", b), "-a - -b": bin(un("-", a), "-", un("-", b)), "a--b": bin(a, "-", un("-", b)), "a*-b": bin(a, "*", un("-", b)), "-(a + b)": un("-", bin(a, "+", b)), "-a is null": un("is null", un("-", a)), "a<-1": bin(a, "<", un("-", num(1))), "a<>-1": bin(a, "<>", un("-", num(1))),
		"a + 1 is null": un("is null", bin(a, "+", num(1))), "a + 1 in (1 + a, -a)": in(bin(a, "+", num(1)), bin(num(1), "+", a), un("-", a)), "a + 1 < b * 2 and d": bin(bin(bin(a, "+", num(1)), "<", bin(b, "*", num(2))), "and", d),
		"(a = 1) = d": bin(bin(a, "=", num(1)), "=", d), "d = (a = 1)": bin(d, "=", bin(a, "=", num(1))), "(a is null) is null": un("is null", un("is null", a)), "d = (not d)": bin(d, "=", un("not", d)), "(a in (1)) in (d, d or d)": in(in(a, num(1)), d, bin(d, "or", d)),
		"d in (a = 1, a is null, not d, a in (1))": in(d, bin(a, "=", num(1)), un("is null", a), un("not", d), in(a, num(1))), "a = 1 or a = 2 or a = 3": bin(bin(bin(a, "=", num(1)), "or", bin(a, "=", num(2))), "or", bin(a, "=", num(3))),
		"1e+5-3": bin(flo(1e5), "-", num(3)), "1e5-3": bin(flo(1e5), "-", num(3)), "1-1": bin(num(1), "-", num(1)), "e=x'00'": bin(col(colE), "=", val(lit.Bytes("\x00"))), "e<>x''": bin(col(colE), "<>", val(lit.Bytes(""))),
	} {
		checkParse(t, s, want)
	}
}

// Pr3: a word that began with a letter does not go on behind e- and e+.
func TestParseNamesEndingInE(t *testing.T) {
	wider := table()
	wider.Columns = append(wider.Columns, api.Column{Name: "re", Kind: api.KindInt}, api.Column{Name: "x", Kind: api.KindInt}, api.Column{Name: "_1e", Kind: api.KindInt})
	for s, want := range map[string]api.Expr{
		"re-1": bin(col(6), "-", num(1)), "re+1": bin(col(6), "+", num(1)), "_1e-1": bin(col(8), "-", num(1)), "x": col(7), "x =1": bin(col(7), "=", num(1)), "x-1": bin(col(7), "-", num(1)),
	} {
		if e, err := pred.Parse(wider, s); err != api.OK || !alike(e, want) {
			t.Errorf("Parse(%q) = %s, %d, want %s", s, show(e), err, show(want))
		}
	}
	for _, s := range []string{"x'00", "x'0'", "x '00'", "re'a'"} {
		if _, err := pred.Parse(wider, s); err != api.ErrPred {
			t.Errorf("Parse(%q) = %d, want ErrPred", s, err)
		}
	}
}

// Pr3: what is no text.
func TestParseNone(t *testing.T) {
	for _, s := range []string{
		"", " ", "\n", "(", ")", "()", "(a", "a)", "(a))", "((a)", ",", "a,", "a,b", "(a,b)", "a b", "a 1", "1 2", "'a' 'b'", "'a'b", "a'b'", "'a'and d", "d and'a' = 'a'", "1and d", "d and1 = 1", "a in(1)and d or", "1 1",
		"a < b < c", "a = b = c", "a < 1 < 2", "a = 1 is null", "a is null is null", "a is null = d", "a is null < 1", "a in (1) in (2)", "a in (1) = d", "a in (1) is null", "d = a in (1)", "a = 1 in (1)", "a is null + 1", "a is null * 1", "a in (1) + 1", "a is null a", "a is null - 1", "not a is null = d",
		"d = not d", "a + not d", "- not d", "-not d", "a * not d", "a < not d", "not", "a not", "not and d", "d not d", "a not in (1)", "a not null", "d not and d",
		"a is", "a is 5", "a is not", "a is not 5", "a is true", "is null", "is not null", "a is not not null", "a is null null", "a isnull", "a is (null)", "a null",
		"a in", "a in 1", "a in ()", "a in (", "a in (1", "a in (1,", "a in (1,)", "a in (,1)", "a in (1,,2)", "a in (1 2)", "in (1)", "(a in (1)", "a in (1))", "a in ((1, 2))", "a in (1, (2, 3))",
		"+", "-", "*", "a +", "a -", "+ a", "+a", "* a", "a + * b", "a + + b", "a */ b", "a % % b", "= 1", "a =", "a = = 1", "a == 1", "a => 1", "a =< 1", "a < > 1", "a > = 1", "a < = 1", "a != 1", "a <=> 1", "a ! 1", "a ; b", "a || b", "a & b", "a ^ b", "a # b", "a ? b", "[a]", "{a}", "\"a\"", "`a`", "a\\b", "$1", "@a", "a:b", "~a",
		"and", "or", "d and", "d or", "and d", "or d", "d and and d", "d and or d", "d or and d", "d and not", "AND d", "d AND d", "NOT d", "a IS NULL", "a IN (1)", "d && d",
		"05", "00", "1.", ".5", ".", "1.5.2", "1e", "1e+", "1e-", "1e +5", "1e+ 5", "1e+5e", "1e+5e+5", "1E5", "1e400", "9223372036854775808", "-9223372036854775808", "1_000", "0x10", "5a", "1a", "a.b", "t.a", ".a", "a.", "nan.", "_.",
		"'", "'a", "a'", "'a''", "'\xff'", "x'0'", "x'0g'", "x'FF'", "X'00'", "x'00", "x'", "'a'''b'", "\xff", "é", "a\x00", "\x00", "a\v= 1", "a\f= 1", "a\u00a0= 1", "'" + strings.Repeat("a", api.MaxRow+1) + "'",
		"select", "count", "a + select", "table", "index = 1", "int", "default", "key", "limit", "values", "from", "as", "text = 'a'", "a = null null", "true true", "null null",
	} {
		checkNoParse(t, s, api.ErrPred)
		if s != "" && strings.TrimSpace(s) != "" {
			checkNoParse(t, "d and ("+s+")", api.ErrPred)
		}
	}
}

// Pr3: no text goes ahead of no column, that ahead of an expression that may not be, that ahead of one without a kind.
func TestParseOrderOfErrors(t *testing.T) {
	deep := strings.Repeat("not ", 100)
	for s, want := range map[string]api.Errno{
		"z": api.ErrNone, "z = 1": api.ErrNone, "A": api.ErrNone, "Select": api.ErrNone, "nan": api.ErrNone, "infinity": api.ErrNone, "TRUE": api.ErrNone, "Null": api.ErrNone, "x": api.ErrNone, "_": api.ErrNone, "aa": api.ErrNone, strings.Repeat("a", 1000): api.ErrNone, "e1": api.ErrNone, "c + z": api.ErrNone, "z + c": api.ErrNone, "d = (z + 'a')": api.ErrNone,
		"z +": api.ErrPred, "z z": api.ErrPred, "c + 1 +": api.ErrPred, deep + "z +": api.ErrPred, deep + "z": api.ErrNone, deep + "c + 1": api.ErrExpr, deep + "d": api.ErrExpr, deep[4:] + "d": api.OK, deep[4:] + "c": api.ErrType,
		"c + 1": api.ErrType, "a = 'x'": api.ErrType, "a and d": api.ErrType, "not a": api.ErrType, "-c": api.ErrType, "b % 2": api.ErrType, "a in (1, 'x')": api.ErrType, "c": api.OK, "1": api.OK,
	} {
		if e, err := pred.Parse(table(), s); err != want || err != api.OK && !zero(e) {
			t.Errorf("Parse(%.60q) = %.100s, %d, want error %d", s, show(e), err, want)
		}
	}
	for want, broken := range map[api.Errno]api.Table{api.ErrName: {}, api.ErrFull: {Name: "t"}} {
		for _, s := range []string{"true", "z", "", "c + 1", strings.Repeat(" ", api.MaxText+1)} {
			if e, err := pred.Parse(broken, s); err != want || !zero(e) {
				t.Errorf("Parse of a table that may not be = %d, want %d", err, want)
			}
		}
	}
}

// Pr3: MaxText bytes, and one more.
func TestParseLong(t *testing.T) {
	checkParse(t, "a"+strings.Repeat(" ", api.MaxText-1), col(colA))
	checkParse(t, strings.Repeat(" ", api.MaxText-1)+"a", col(colA))
	checkNoParse(t, strings.Repeat(" ", api.MaxText)+"a", api.ErrLong)
	checkNoParse(t, strings.Repeat("(", api.MaxText+1), api.ErrLong)
	checkNoParse(t, strings.Repeat("z", api.MaxText+1), api.ErrLong)
	checkNoParse(t, strings.Repeat("z", api.MaxText), api.ErrNone)
	checkNoParse(t, strings.Repeat("1", api.MaxText), api.ErrPred)
	full := strings.Repeat("a", api.MaxRow)
	checkParse(t, "'"+full+"'", val(lit.Text(full)))
	checkParse(t, "1."+strings.Repeat("0", api.MaxText-2), flo(1))
}

// Pr3: as many nodes, and as deep, as may be, and one more; parentheses are none.
func TestParseLimits(t *testing.T) {
	if e := parsed(t, "1"+strings.Repeat(" + 1", 99)); len(pred.Columns(e)) != 0 {
		t.Error("columns where none are")
	}
	checkNoParse(t, "1"+strings.Repeat(" + 1", 100), api.ErrExpr)
	checkParse(t, strings.Repeat("- ", 99)+"1", negatedOften(99))
	checkNoParse(t, strings.Repeat("-", 100)+"1", api.ErrExpr)
	if e := parsed(t, "1 in (1"+strings.Repeat(",1", 1021)+")"); len(e.Kids) != 1023 {
		t.Errorf("%d kids, want 1023", len(e.Kids))
	}
	checkNoParse(t, "1 in (1"+strings.Repeat(",1", 1022)+")", api.ErrExpr)
	checkNoParse(t, "1 in (1"+strings.Repeat(",1", 100000)+")", api.ErrExpr)
	many := (api.MaxText - 1) / 2
	checkParse(t, strings.Repeat("(", many)+"a"+strings.Repeat(")", many), col(colA))
	checkNoParse(t, strings.Repeat("(", many)+"a"+strings.Repeat(")", many+1), api.ErrPred)
	checkNoParse(t, strings.Repeat("(", many)+"z"+strings.Repeat(")", many), api.ErrNone)
	checkNoParse(t, strings.Repeat("(", api.MaxText), api.ErrPred)
	checkNoParse(t, strings.Repeat("-", api.MaxText), api.ErrPred)
	checkNoParse(t, strings.Repeat("-", api.MaxText-1)+"a", api.ErrExpr)
	checkNoParse(t, strings.Repeat("-", api.MaxText-1)+"z", api.ErrNone)
	checkNoParse(t, strings.Repeat("-(", many/2)+"a"+strings.Repeat(")", many/2), api.ErrExpr)
	checkNoParse(t, strings.Repeat("not ", 60000)+"d", api.ErrExpr)
	checkNoParse(t, strings.Repeat("a in (", 30000)+"a"+strings.Repeat(")", 30000), api.ErrExpr)
	checkNoParse(t, strings.Repeat("a in (", 30000)+"a"+strings.Repeat(")", 29999), api.ErrPred)
	checkNoParse(t, "a"+strings.Repeat("+a", 120000), api.ErrExpr)
	checkNoParse(t, "a"+strings.Repeat("+a", 120000)+"+", api.ErrPred)
	checkNoParse(t, strings.Repeat("d or (", 30000)+"z"+strings.Repeat(")", 30000), api.ErrNone)
}

func negatedOften(times int) api.Expr {
	e := num(1)
	for range times {
		e = un("-", e)
	}
	return e
}
