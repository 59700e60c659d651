package pred_test

import (
	"regexp"
	"strings"
	"testing"

	"vellum/api"
	"vellum/pred"
	"vellum/schema"
	"vellum/value"
)

// grammar reads texts anew, by a function a level, so that what is read can be held against it.
type grammar struct {
	rest   []string
	failed bool
	lost   bool // a name is no column's
}

var piece = regexp.MustCompile(`^(?:x?'(?:[^']|'')*'|[0-9](?:[A-Za-z0-9_.]*e[+-])*[A-Za-z0-9_.]*|[A-Za-z0-9_.]+|<>|<=|>=|[(),+*/%=<>-])`)

// pieces cuts a text; false, if it can't be cut, or two words touch.
func pieces(s string) ([]string, bool) {
	var l []string
	touching := false
	for {
		rest := strings.TrimLeft(s, " \t\n\r")
		if len(rest) < len(s) {
			touching = false
		}
		if rest == "" {
			return l, true
		}
		p := piece.FindString(rest)
		word := p != "" && !strings.ContainsAny(p[:1], "(),+-*/%=<>")
		if p == "" || word && touching {
			return nil, false
		}
		l, s, touching = append(l, p), rest[len(p):], word
	}
}

// expected is what Parse must tell of a text.
func expected(s string) (api.Expr, api.Errno) {
	l, ok := pieces(s)
	g := grammar{rest: l}
	e := g.or()
	if !ok || g.failed || len(g.rest) > 0 {
		return api.Expr{}, api.ErrPred
	}
	if g.lost {
		return api.Expr{}, api.ErrNone
	}
	if _, err := pred.Check(table(), e); err != api.OK {
		return api.Expr{}, err
	}
	return e, api.OK
}

func (g *grammar) has(l ...string) bool {
	if len(g.rest) < len(l) || strings.Join(g.rest[:len(l)], " ") != strings.Join(l, " ") {
		return false
	}
	g.rest = g.rest[len(l):]
	return true
}

// one takes one of some pieces; empty, if none is next.
func (g *grammar) one(l ...string) string {
	for _, p := range l {
		if g.has(p) {
			return p
		}
	}
	return ""
}

func (g *grammar) left(kid func() api.Expr, ops ...string) api.Expr {
	e := kid()
	for op := g.one(ops...); op != ""; op = g.one(ops...) {
		e = bin(e, op, kid())
	}
	return e
}

func (g *grammar) or() api.Expr  { return g.left(g.and, "or") }
func (g *grammar) and() api.Expr { return g.left(g.not, "and") }

func (g *grammar) not() api.Expr {
	if g.has("not") {
		return un("not", g.not())
	}
	return g.compared()
}

func (g *grammar) compared() api.Expr {
	e := g.sum()
	if op := g.one(compareOps...); op != "" {
		return bin(e, op, g.sum())
	}
	switch {
	case g.has("is", "null"):
		return un("is null", e)
	case g.has("is", "not", "null"):
		return un("is not null", e)
	case g.has("in", "("):
		kids := []api.Expr{e, g.or()}
		for g.has(",") {
			kids = append(kids, g.or())
		}
		g.failed = g.failed || !g.has(")")
		return in(kids...)
	}
	return e
}

func (g *grammar) sum() api.Expr     { return g.left(g.product, "+", "-") }
func (g *grammar) product() api.Expr { return g.left(g.minus, "*", "/", "%") }

func (g *grammar) minus() api.Expr {
	switch {
	case g.has("-"):
		return un("-", g.minus())
	case g.has("("):
		e := g.or()
		g.failed = g.failed || !g.has(")")
		return e
	case len(g.rest) == 0:
		g.failed = true
		return api.Expr{}
	}
	word := g.rest[0]
	g.rest = g.rest[1:]
	if v, err := value.Parse(word); err == api.OK {
		return val(v)
	}
	n, err := schema.Column(table(), word)
	g.lost = g.lost || err != api.OK
	g.failed = g.failed || !regexp.MustCompile(`^[A-Za-z_][A-Za-z0-9_]*$`).MatchString(word) || schema.Name(word+"_") && !schema.Name(word)
	return api.Expr{Kind: api.ExprColumn, Column: n}
}

func checkGrammar(t *testing.T, s string) api.Errno {
	t.Helper()
	want, err := expected(s)
	if err == api.OK {
		checkParse(t, s, want)
	} else {
		checkNoParse(t, s, err)
	}
	return err
}

// Pr3: all short rows of pieces of every kind, held against the grammar.
func TestParseShort(t *testing.T) {
	l := []string{"a", "d", "1", "(", ")", ",", "-", "+", "*", "=", "<", "and", "or", "not", "is", "null", "in"}
	met := map[api.Errno]int{}
	var grow func(s string, left int)
	grow = func(s string, left int) {
		met[checkGrammar(t, s)]++
		if left == 0 {
			return
		}
		for _, p := range l {
			grow(s+" "+p, left-1)
		}
	}
	grow("", 4)
	if met[api.OK] < 200 || met[api.ErrPred] < 10000 || met[api.ErrType] < 20 {
		t.Errorf("too few of a kind: %v", met)
	}
}

// Pr3: printed texts, whole and broken at random, held against the grammar.
func TestParseBroken(t *testing.T) {
	m := newMaker(5)
	spare := []string{"a", "b", "d", "z", "1", "2.5", "1e+5", "1e-", "'x'", "x'00'", "null", "NaN", "select", "(", ")", ",", "+", "-", "*", "/", "%", "=", "<>", "<", "<=", ">", ">=", "and", "or", "not", "is", "in", "is null", "in (", "", "", " ", "'", "e", ".", "!", "\n"}
	met := map[api.Errno]int{}
	for range 15000 {
		s := printed(t, m.expr(api.KindBool, 5))
		for range m.IntN(4) {
			at := m.IntN(len(s) + 1)
			to := min(len(s), at+m.IntN(4))
			gap := pick(m, []string{"", " "})
			s = s[:at] + gap + pick(m, spare) + gap + s[to:]
		}
		met[checkGrammar(t, s)]++
	}
	for _, err := range []api.Errno{api.OK, api.ErrPred, api.ErrNone, api.ErrType} {
		if met[err] < 100 {
			t.Errorf("error %d came %d times: too few to tell anything", err, met[err])
		}
	}
}

// Pr3: signs and words at random, with blanks between them or none.
func TestParseMingled(t *testing.T) {
	m := newMaker(6)
	operands := []string{"a", "b", "d", "1", "2", "1.5", "1e+5", "'x'", "true", "null", "z"}
	between := []string{"+", "-", "*", "/", "%", "=", "<>", "<", "<=", ">", ">=", " and ", " or ", " is null and ", " in (1, 2) or ", "+-", "- -", "=-", "<(", ")<", " in (", ",", ") and (", " and not ", " or not ", "=(", ")=", "+(", ")*"}
	for range 15000 {
		s := pick(m, []string{"", "", "(", "-", "not ", "- -"}) + pick(m, operands)
		for range m.IntN(5) {
			s += pick(m, between) + pick(m, []string{"", "", " ", "\n"}) + pick(m, operands)
		}
		checkGrammar(t, s+pick(m, []string{"", "", ")", "))", " is null", " is not null", " in (1)"}))
	}
}
