package pred_test

import (
	"fmt"
	"math"
	"math/rand/v2"
	"slices"
	"strings"
	"testing"

	"vellum/api"
	"vellum/lit"
	"vellum/pred"
)

const (
	negativeZero = 1 << 63
	plainNaN     = 0x7FF8000000000000
	oddNaN       = 0x7FF8000000000001
	signedNaN    = 0xFFF8000000000000
	maxInt       = math.MaxInt64
	minInt       = math.MinInt64
)

// The columns of table, one of each kind that may be null, and the key.
const (
	colA = iota // int
	colB        // float
	colC        // text
	colD        // bool
	colE        // bytes
	colK        // int, the key
)

func table() api.Table {
	return api.Table{Name: "t", Key: []int{colK}, Columns: []api.Column{
		{Name: "a", Kind: api.KindInt, Null: true},
		{Name: "b", Kind: api.KindFloat, Null: true},
		{Name: "c", Kind: api.KindText, Null: true},
		{Name: "d", Kind: api.KindBool, Null: true},
		{Name: "e", Kind: api.KindBytes, Null: true},
		{Name: "k", Kind: api.KindInt},
	}}
}

// nulls is a row of table that is null where it may be.
func nulls() []api.Value {
	return []api.Value{{}, {}, {}, {}, {}, lit.Int(7)}
}

func rowOf(a, b, c, d, e api.Value) []api.Value {
	return []api.Value{a, b, c, d, e, lit.Int(7)}
}

// someRow has values everywhere.
func someRow() []api.Value {
	return rowOf(lit.Int(3), lit.Float(1.5), lit.Text("x"), lit.Bool(true), lit.Bytes("y"))
}

func val(v api.Value) api.Expr { return api.Expr{Kind: api.ExprValue, Value: v} }

func num(n int64) api.Expr { return val(lit.Int(n)) }

func flo(f float64) api.Expr { return val(lit.Float(f)) }

func null() api.Expr { return val(lit.Null()) }

func truth(b bool) api.Expr { return val(lit.Bool(b)) }

func col(n int) api.Expr { return api.Expr{Kind: api.ExprColumn, Column: n} }

func un(op string, kid api.Expr) api.Expr {
	return api.Expr{Kind: api.ExprUnary, Op: op, Kids: []api.Expr{kid}}
}

func bin(first api.Expr, op string, second api.Expr) api.Expr {
	return api.Expr{Kind: api.ExprBinary, Op: op, Kids: []api.Expr{first, second}}
}

func in(kids ...api.Expr) api.Expr { return api.Expr{Kind: api.ExprIn, Kids: kids} }

var (
	compareOps = []string{"=", "<>", "<", "<=", ">", ">="}
	numberOps  = []string{"+", "-", "*", "/", "%"}
	logicOps   = []string{"and", "or"}
	unaryOps   = []string{"-", "not", "is null", "is not null"}
)

func binaryOps() []string { return slices.Concat(compareOps, numberOps, logicOps) }

// tower is an expression of bool that is nested so deep.
func tower(deep int) api.Expr {
	e := truth(true)
	for range deep - 1 {
		e = un("not", e)
	}
	return e
}

// wide is an expression of bool of so many nodes (3 or more).
func wide(nodes int) api.Expr {
	kids := []api.Expr{}
	for range nodes - 1 {
		kids = append(kids, num(1))
	}
	return in(kids...)
}

// identical holds values against each other bit by bit.
func identical(a, b api.Value) bool {
	return a.Kind == b.Kind && a.N == b.N && math.Float64bits(a.F) == math.Float64bits(b.F) && a.S == b.S
}

// alike tells whether two expressions are the same, node by node and bit by bit.
func alike(a, b api.Expr) bool {
	return a.Kind == b.Kind && a.Op == b.Op && a.Column == b.Column && identical(a.Value, b.Value) && slices.EqualFunc(a.Kids, b.Kids, alike)
}

func zero(e api.Expr) bool { return alike(e, api.Expr{}) }

// show is an expression with all its parentheses.
func show(e api.Expr) string {
	var kids []string
	for _, kid := range e.Kids {
		kids = append(kids, show(kid))
	}
	switch e.Kind {
	case api.ExprValue:
		return fmt.Sprintf("%d:%d:%x:%.40q", e.Value.Kind, e.Value.N, math.Float64bits(e.Value.F), e.Value.S)
	case api.ExprColumn:
		return fmt.Sprintf("#%d", e.Column)
	}
	return fmt.Sprintf("%d{%s %s}", e.Kind, e.Op, strings.Join(kids, " "))
}

func parsed(t *testing.T, s string) api.Expr {
	t.Helper()
	e, err := pred.Parse(table(), s)
	if err != api.OK {
		t.Fatalf("Parse(%q) = %d", s, err)
	}
	return e
}

func printed(t *testing.T, e api.Expr) string {
	t.Helper()
	s, err := pred.Print(table(), e)
	if err != api.OK {
		t.Fatalf("Print(%s) = %d", show(e), err)
	}
	return s
}

// checkEval holds what an expression is worth against a value, bit by bit.
func checkEval(t *testing.T, e api.Expr, row []api.Value, want api.Value) {
	t.Helper()
	if v, err := pred.Eval(table(), e, row); err != api.OK || !identical(v, want) {
		t.Errorf("Eval(%s) = %v, %d, want %v", show(e), v, err, want)
	}
}

func checkNoEval(t *testing.T, e api.Expr, row []api.Value, want api.Errno) {
	t.Helper()
	if v, err := pred.Eval(table(), e, row); err != want || !identical(v, api.Value{}) {
		t.Errorf("Eval(%s) = %v, %d, want error %d", show(e), v, err, want)
	}
}

// values is values of each kind, and the edges of each.
func values() []api.Value {
	l := []api.Value{lit.Null(), lit.Bool(false), lit.Bool(true)}
	for _, n := range []int64{minInt, minInt + 1, -1<<53 - 1, -1 << 32, -7, -2, -1, 0, 1, 2, 3, 7, 1 << 31, 1 << 32, 1<<53 + 1, 1 << 62, maxInt - 1, maxInt} {
		l = append(l, lit.Int(n))
	}
	for _, f := range []float64{math.Inf(-1), -math.MaxFloat64, -1 << 63, -2.5, -1, -math.SmallestNonzeroFloat64, 0, math.SmallestNonzeroFloat64, 0x1p-1022, 0.1, 0.5, 1, 1.5, 2, 1 << 53, 1 << 63, 1e300, math.MaxFloat64, math.Inf(1)} {
		l = append(l, lit.Float(f))
	}
	for _, b := range []uint64{negativeZero, plainNaN, oddNaN, signedNaN} {
		l = append(l, lit.Bits(b))
	}
	for _, s := range []string{"", "a", "ab", "it's", "null", "-5", "é", "\x00"} {
		l = append(l, lit.Text(s), lit.Bytes(s))
	}
	return append(l, lit.Bytes("\xff"))
}

func valuesOf(kind int) []api.Value {
	return slices.DeleteFunc(values(), func(v api.Value) bool { return v.Kind != kind })
}

// maker makes expressions at random.
type maker struct{ *rand.Rand }

func newMaker(seed uint64) maker { return maker{rand.New(rand.NewPCG(seed, 15))} }

func pick[T any](m maker, l []T) T { return l[m.IntN(len(l))] }

func (m maker) value(kind int) api.Value {
	if m.IntN(6) == 0 {
		return lit.Null()
	}
	if kind == api.KindInt && m.IntN(2) == 0 {
		return lit.Int(m.Int64N(9) - 4)
	}
	return pick(m, valuesOf(kind))
}

func (m maker) row() []api.Value {
	row := nulls()
	for i, c := range table().Columns {
		if v := m.value(c.Kind); c.Null || v.Kind != api.KindNull {
			row[i] = v
		}
	}
	return row
}

// expr is an expression of a kind, or of null, nested at most so deep.
func (m maker) expr(kind, deep int) api.Expr {
	if deep <= 1 || m.IntN(5) == 0 {
		return m.leaf(kind)
	}
	switch kind {
	case api.KindBool:
		return m.truth(deep - 1)
	case api.KindInt, api.KindFloat:
		return m.number(kind, deep-1)
	}
	return m.leaf(kind)
}

func (m maker) leaf(kind int) api.Expr {
	var columns []int
	for i, c := range table().Columns {
		if c.Kind == kind {
			columns = append(columns, i)
		}
	}
	if m.IntN(2) == 0 && len(columns) > 0 {
		return col(pick(m, columns))
	}
	return val(m.value(kind))
}

func (m maker) number(kind, deep int) api.Expr {
	if m.IntN(4) == 0 {
		return un("-", m.expr(kind, deep))
	}
	ops := numberOps
	if kind == api.KindFloat {
		ops = numberOps[:4]
	}
	first, second := kind, kind
	if kind == api.KindFloat && m.IntN(3) == 0 {
		second = api.KindInt
	}
	if m.IntN(2) == 0 {
		first, second = second, first
	}
	return bin(m.expr(first, deep), pick(m, ops), m.expr(second, deep))
}

func (m maker) truth(deep int) api.Expr {
	kind := 1 + m.IntN(5)
	other := kind
	if kind == api.KindInt && m.IntN(2) == 0 {
		other = api.KindFloat
	}
	switch m.IntN(7) {
	case 0:
		return un("not", m.expr(api.KindBool, deep))
	case 1:
		return un(pick(m, []string{"is null", "is not null"}), m.expr(kind, deep))
	case 2:
		kids := []api.Expr{m.expr(kind, deep)}
		for range 1 + m.IntN(3) {
			kids = append(kids, m.expr(other, deep))
		}
		return in(kids...)
	case 3, 4:
		return bin(m.expr(kind, deep), pick(m, compareOps), m.expr(other, deep))
	}
	return bin(m.expr(api.KindBool, deep), pick(m, logicOps), m.expr(api.KindBool, deep))
}
