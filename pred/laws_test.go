package pred_test

import (
	"math"
	"strings"
	"testing"

	"vellum/api"
	"vellum/lit"
	"vellum/pred"
	"vellum/value"
)

// reread is an expression as its text is read again: operators where values below 0 were.
func reread(e api.Expr) api.Expr {
	if e.Kind == api.ExprValue {
		v := e.Value
		switch {
		case v.Kind == api.KindInt && v.N == minInt:
			return bin(un("-", num(maxInt)), "-", num(1))
		case v.Kind == api.KindInt && v.N < 0:
			return un("-", num(-v.N))
		case v.Kind == api.KindFloat && v.F != v.F:
			return val(lit.Bits(plainNaN))
		case v.Kind == api.KindFloat && math.Signbit(v.F):
			return un("-", flo(-v.F))
		}
		return e
	}
	kids := e.Kids
	e.Kids = nil
	for _, kid := range kids {
		e.Kids = append(e.Kids, reread(kid))
	}
	return e
}

func deepness(e api.Expr) int {
	deep := 0
	for _, kid := range e.Kids {
		deep = max(deep, deepness(kid))
	}
	return deep + 1
}

// Pr5: what is printed is read again as the same tree, but for values below 0, and is worth the same; printed again it is the same text.
func TestPrintedIsRead(t *testing.T) {
	m := newMaker(7)
	for range 6000 {
		e := m.expr(1+m.IntN(5), 6)
		s := printed(t, e)
		back := reread(e)
		checkParse(t, s, back)
		if again := printed(t, back); again != s {
			t.Errorf("%q is printed as %q", s, again)
		}
		row := m.row()
		v, err := pred.Eval(table(), e, row)
		w, told := pred.Eval(table(), back, row)
		if err != told || value.Compare(v, w) != 0 || v.F == v.F && !identical(v, w) {
			t.Errorf("%q is worth %v, %d; read again %v, %d", s, v, err, w, told)
		}
	}
}

// Pr5: each value is read again as what it was, and within the edges of each operator.
func TestPrintedValuesAreRead(t *testing.T) {
	for _, v := range values() {
		for _, e := range []api.Expr{val(v), un("is null", val(v)), in(val(v), val(v), val(v)), bin(val(v), "<", val(v)), un("-", val(v)), bin(val(v), "-", val(v)), bin(val(v), "*", val(v)), un("-", un("-", val(v)))} {
			if _, err := pred.Check(table(), e); err != api.OK {
				continue
			}
			checkParse(t, printed(t, e), reread(e))
		}
	}
}

// Pr5: but ErrExpr, if what is read has more nodes, or deeper ones.
func TestPrintedIsTooMuch(t *testing.T) {
	many := wide(api.MaxNodes)
	checkParse(t, printed(t, many), many)
	many.Kids[500] = num(-1)
	checkNoParse(t, printed(t, many), api.ErrExpr)
	deep := num(-1)
	for range api.MaxDeep - 1 {
		deep = un("-", deep)
	}
	checkNoParse(t, printed(t, deep), api.ErrExpr)
	deep = num(minInt)
	for deepness(deep) < api.MaxDeep-2 {
		deep = bin(deep, "*", num(1))
	}
	checkParse(t, printed(t, deep), reread(deep))
	checkNoParse(t, printed(t, bin(deep, "*", num(1))), api.ErrExpr)
}

// pairs is where the parentheses of a text stand, each with the one that ends it, but those behind in.
func pairs(s string) [][2]int {
	var l [][2]int
	var open []int
	quoted := false
	for i := range len(s) {
		switch {
		case s[i] == '\'':
			quoted = !quoted
		case quoted:
		case s[i] == '(':
			open = append(open, i)
		case s[i] == ')':
			from := open[len(open)-1]
			open = open[:len(open)-1]
			if !strings.HasSuffix(s[:from], " in ") {
				l = append(l, [2]int{from, i})
			}
		}
	}
	return l
}

// Pr3: no pair of parentheses can be left out.
func TestPrintNeedsParentheses(t *testing.T) {
	m := newMaker(8)
	count := 0
	for range 5000 {
		e := m.expr(1+m.IntN(3), 5)
		s := printed(t, e)
		want := reread(e)
		for _, p := range pairs(s) {
			count++
			without := s[:p[0]] + " " + s[p[0]+1:p[1]] + " " + s[p[1]+1:]
			if other, err := pred.Parse(table(), without); err == api.OK && alike(other, want) {
				t.Errorf("%q needs no parentheses at %d", s, p[0])
			}
		}
	}
	if count < 2000 {
		t.Errorf("%d pairs: too few to tell anything", count)
	}
}

// Pr3: blanks stand just where the chapter has them.
func TestPrintBlanks(t *testing.T) {
	m := newMaker(9)
	for range 5000 {
		s := printed(t, m.expr(api.KindBool, 5))
		if strings.Contains(s, "'") {
			continue
		}
		for _, wrong := range []string{"  ", "( ", " )", " ,", "\n", "--"} {
			if strings.Contains(s, wrong) {
				t.Errorf("%q has %q", s, wrong)
			}
		}
		if strings.Count(s, ",") != strings.Count(s, ", ") || s != strings.TrimSpace(s) {
			t.Errorf("%q lacks a blank, or has one at its ends", s)
		}
	}
}

// Pr5: not not e takes what e takes; not (a and b) is worth what not a or not b is; a and b takes just what both take.
func TestLogicLaws(t *testing.T) {
	m := newMaker(10)
	for range 5000 {
		a, b, row := m.expr(api.KindBool, 4), m.expr(api.KindBool, 4), m.row()
		takes := func(e api.Expr) (bool, api.Errno) {
			yes, err := pred.Takes(table(), e, row)
			return yes, err
		}
		first, err := takes(a)
		twice, told := takes(un("not", un("not", a)))
		if twice != first || told != err {
			t.Errorf("not not %s: %v, %d, want %v, %d", show(a), twice, told, first, err)
		}
		v, x := pred.Eval(table(), un("not", bin(a, "and", b)), row)
		w, y := pred.Eval(table(), bin(un("not", a), "or", un("not", b)), row)
		if x != y || !identical(v, w) {
			t.Errorf("not (%s and %s): %v, %d; not a or not b: %v, %d", show(a), show(b), v, x, w, y)
		}
		second, other := takes(b)
		if both, x := takes(bin(a, "and", b)); err == api.OK && other == api.OK && (x != api.OK || both != (first && second)) {
			t.Errorf("%s and %s: %v, %d, want %v", show(a), show(b), both, x, first && second)
		}
	}
}
