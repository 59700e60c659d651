package pred_test

import (
	"math"
	"slices"
	"strings"
	"testing"

	"vellum/api"
	"vellum/lit"
	"vellum/pred"
)

func checkKind(t *testing.T, e api.Expr, want int) {
	t.Helper()
	if kind, err := pred.Check(table(), e); err != api.OK || kind != want {
		t.Errorf("Check(%s) = %d, %d, want kind %d", show(e), kind, err, want)
	}
}

func checkNoKind(t *testing.T, e api.Expr, want api.Errno) {
	t.Helper()
	if kind, err := pred.Check(table(), e); err != want || kind != 0 {
		t.Errorf("Check(%s) = %d, %d, want error %d", show(e), kind, err, want)
	}
}

// misshapen is expressions that may not be, each for one reason.
func misshapen() []api.Expr {
	minus := math.Float64frombits(negativeZero)
	a, one := col(colA), num(1)
	var l []api.Expr
	for _, kind := range []int{0, -1, 6, math.MinInt, math.MaxInt} {
		l = append(l, api.Expr{Kind: kind}, api.Expr{Kind: kind, Kids: []api.Expr{one}}, api.Expr{Kind: kind, Op: "=", Kids: []api.Expr{one, one}})
	}
	good := []api.Expr{one, a, un("-", one), un("is null", one), bin(one, "+", one), bin(one, "=", one), in(one, one), in(one, one, one)}
	for _, e := range good {
		for _, spoil := range []func(e *api.Expr){
			func(e *api.Expr) { e.Op += "x" },
			func(e *api.Expr) { e.Op = " " },
			func(e *api.Expr) { e.Op = strings.ToUpper(e.Op) + "\x00" },
			func(e *api.Expr) { e.Column = 6 },
			func(e *api.Expr) { e.Column = -1 },
			func(e *api.Expr) { e.Column = math.MaxInt },
			func(e *api.Expr) { e.Value = api.Value{Kind: 6} },
			func(e *api.Expr) { e.Value = api.Value{N: 1} },
			func(e *api.Expr) { e.Value = api.Value{F: minus} },
			func(e *api.Expr) { e.Value = api.Value{S: "a"} },
			func(e *api.Expr) { e.Value = lit.Text("\xff") },
			func(e *api.Expr) { e.Value = lit.Bytes(strings.Repeat("a", api.MaxRow+1)) },
			func(e *api.Expr) { e.Value = api.Value{Kind: api.KindBool, N: 2} },
			func(e *api.Expr) { e.Kids = append(slices.Clone(e.Kids), api.Expr{}) },
		} {
			spoiled := e
			spoil(&spoiled)
			l = append(l, spoiled)
		}
	}
	for _, e := range good[1:] {
		for _, v := range []api.Value{lit.Bool(false), lit.Int(0), lit.Float(0), lit.Text(""), lit.Bytes("")} {
			spoiled := e
			spoiled.Value = v
			l = append(l, spoiled)
		}
	}
	for _, e := range []api.Expr{one, un("-", one), bin(one, "+", one), in(one, one)} {
		e.Column = 1
		l = append(l, e)
	}
	for _, e := range []api.Expr{one, a, in(one, one)} {
		for _, op := range []string{"=", "-", "in", "and", "is null"} {
			e.Op = op
			l = append(l, e)
		}
	}
	for _, op := range slices.Concat([]string{"", "+", "=", "and", "in", "is", "NOT", "is  null", "isnull", "!", "not "}) {
		l = append(l, un(op, truth(true)))
	}
	for _, op := range []string{"", "not", "is null", "in", "<=>", "!=", "==", "AND", "or ", "||", "^", "<>="} {
		l = append(l, bin(truth(true), op, truth(true)))
	}
	for many := range 5 {
		kids := slices.Repeat([]api.Expr{truth(true)}, many)
		if many != 0 {
			l = append(l, api.Expr{Kind: api.ExprValue, Kids: kids}, api.Expr{Kind: api.ExprColumn, Kids: kids})
		}
		if many != 1 {
			l = append(l, api.Expr{Kind: api.ExprUnary, Op: "not", Kids: kids}, api.Expr{Kind: api.ExprUnary, Op: "is null", Kids: kids})
		}
		if many != 2 {
			l = append(l, api.Expr{Kind: api.ExprBinary, Op: "and", Kids: kids}, api.Expr{Kind: api.ExprBinary, Op: "=", Kids: kids})
		}
		if many < 2 {
			l = append(l, in(kids...))
		}
	}
	return l
}

// Pr1: what may not be, alone and as each kid of others.
func TestCheckMisshapen(t *testing.T) {
	for _, e := range misshapen() {
		checkNoKind(t, e, api.ErrExpr)
		checkNoKind(t, un("is null", e), api.ErrExpr)
		checkNoKind(t, bin(e, "and", truth(true)), api.ErrExpr)
		checkNoKind(t, bin(truth(true), "and", e), api.ErrExpr)
		checkNoKind(t, in(num(1), num(2), e), api.ErrExpr)
	}
}

// Pr1: every part that may be, with kids that are nil where there are none, or empty.
func TestCheckGood(t *testing.T) {
	checkKind(t, api.Expr{Kind: api.ExprValue, Value: lit.Int(5), Kids: []api.Expr{}}, api.KindInt)
	checkKind(t, api.Expr{Kind: api.ExprColumn, Column: colK, Kids: []api.Expr{}}, api.KindInt)
	for _, v := range values() {
		checkKind(t, val(v), v.Kind)
	}
	for i, c := range table().Columns {
		checkKind(t, col(i), c.Kind)
	}
	checkKind(t, val(lit.Text(strings.Repeat("a", api.MaxRow))), api.KindText)
}

// Pr1: at most MaxNodes nodes, at most MaxDeep deep.
func TestCheckLimits(t *testing.T) {
	checkKind(t, tower(api.MaxDeep), api.KindBool)
	checkNoKind(t, tower(api.MaxDeep+1), api.ErrExpr)
	checkKind(t, wide(api.MaxNodes), api.KindBool)
	checkNoKind(t, wide(api.MaxNodes+1), api.ErrExpr)
	checkNoKind(t, wide(100000), api.ErrExpr)
	checkKind(t, bin(tower(99), "and", tower(99)), api.KindBool)
	checkNoKind(t, bin(truth(true), "and", tower(100)), api.ErrExpr)
	checkNoKind(t, bin(tower(100), "and", truth(true)), api.ErrExpr)
	checkNoKind(t, in(truth(true), truth(true), tower(100)), api.ErrExpr)
	checkKind(t, bin(wide(512), "and", wide(511)), api.KindBool)
	checkNoKind(t, bin(wide(512), "and", wide(512)), api.ErrExpr)
	var long api.Expr = num(1)
	for range 99 {
		long = bin(long, "+", num(1))
	}
	checkKind(t, long, api.KindInt)
	checkNoKind(t, bin(long, "+", num(1)), api.ErrExpr)
}

// Pr1: expressions that are nested without end, or share their kids.
func TestCheckEndless(t *testing.T) {
	kids := make([]api.Expr, 2)
	kids[0] = bin(truth(true), "and", truth(true))
	kids[0].Kids = kids
	kids[1] = truth(true)
	for name, call := range calls(kids[0]) {
		if err := call(); err != api.ErrExpr {
			t.Errorf("%s = %d, want ErrExpr", name, err)
		}
	}
	deep := tower(1000000)
	shared := truth(true)
	for range 99 {
		shared = bin(shared, "and", shared)
	}
	for _, e := range []api.Expr{deep, shared, in(num(1), deep)} {
		checkNoKind(t, e, api.ErrExpr)
	}
}

// calls is all calls that look whether an expression may be.
func calls(e api.Expr) map[string]func() api.Errno {
	return callsIn(table(), e, someRow())
}

func callsIn(t api.Table, e api.Expr, row []api.Value) map[string]func() api.Errno {
	return map[string]func() api.Errno{
		"Check":  func() api.Errno { _, err := pred.Check(t, e); return err },
		"Eval":   func() api.Errno { _, err := pred.Eval(t, e, row); return err },
		"Takes":  func() api.Errno { _, err := pred.Takes(t, e, row); return err },
		"Print":  func() api.Errno { _, err := pred.Print(t, e); return err },
		"Bounds": func() api.Errno { _, err := pred.Bounds(t, e, []int{0}); return err },
	}
}

// Pr1 to Pr4: a table that may not be goes ahead of an expression that may not be, and that ahead of one without a kind, and that ahead of all else.
func TestOrderOfErrors(t *testing.T) {
	nameless, keyless := table(), table()
	nameless.Name = "Select"
	keyless.Key = nil
	mistyped := bin(col(colC), "+", num(1))
	for _, c := range []struct {
		table api.Table
		e     api.Expr
		want  api.Errno
	}{
		{nameless, api.Expr{}, api.ErrName}, {nameless, mistyped, api.ErrName}, {nameless, truth(true), api.ErrName},
		{keyless, api.Expr{}, api.ErrKeyless}, {api.Table{}, truth(true), api.ErrName},
		{table(), api.Expr{}, api.ErrExpr}, {table(), bin(mistyped, "+", api.Expr{}), api.ErrExpr}, {table(), mistyped, api.ErrType},
	} {
		for name, call := range callsIn(c.table, c.e, nil) {
			if err := call(); err != c.want {
				t.Errorf("%s(%s, %s) = %d, want %d", name, c.table.Name, show(c.e), err, c.want)
			}
		}
		if r, err := pred.Bounds(c.table, c.e, nil); err != c.want || r != (api.Range{}) {
			t.Errorf("Bounds(%s) over nothing = %v, %d, want %d", show(c.e), r, err, c.want)
		}
	}
	for name, call := range map[string]func(t api.Table) api.Errno{
		"Parse":    func(t api.Table) api.Errno { _, err := pred.Parse(t, "z +"); return err },
		"longest":  func(t api.Table) api.Errno { _, err := pred.Parse(t, strings.Repeat("z", api.MaxText+1)); return err },
		"no names": func(t api.Table) api.Errno { _, err := pred.Parse(t, "true"); return err },
	} {
		if err := call(nameless); err != api.ErrName {
			t.Errorf("%s of a table without a name = %d, want ErrName", name, err)
		}
	}
}
