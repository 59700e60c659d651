package pred_test

import (
	"slices"
	"testing"

	"vellum/api"
)

const none = -1

// byKind is an expression of each kind.
func byKind() []api.Expr {
	return []api.Expr{null(), col(colD), col(colA), col(colB), col(colC), col(colE)}
}

// Pr1: the kinds of +, -, *, / and %, by tables: null, bool, int, float, text, bytes.
func TestKindsOfNumbers(t *testing.T) {
	const n, i, f = api.KindNull, api.KindInt, api.KindFloat
	const x = none
	plain := [6][6]int{
		{n, x, i, f, x, x},
		{x, x, x, x, x, x},
		{i, x, i, f, x, x},
		{f, x, f, f, x, x},
		{x, x, x, x, x, x},
		{x, x, x, x, x, x},
	}
	rest := [6][6]int{
		{n, x, i, x, x, x},
		{x, x, x, x, x, x},
		{i, x, i, x, x, x},
		{x, x, x, x, x, x},
		{x, x, x, x, x, x},
		{x, x, x, x, x, x},
	}
	for _, op := range numberOps {
		want := plain
		if op == "%" {
			want = rest
		}
		checkPairs(t, op, want)
	}
}

// Pr1: comparisons are of two numbers, of two of one kind, and of null with any.
func TestKindsOfComparisons(t *testing.T) {
	const b, x = api.KindBool, none
	want := [6][6]int{
		{b, b, b, b, b, b},
		{b, b, x, x, x, x},
		{b, x, b, b, x, x},
		{b, x, b, b, x, x},
		{b, x, x, x, b, x},
		{b, x, x, x, x, b},
	}
	for _, op := range compareOps {
		checkPairs(t, op, want)
	}
	for i, first := range byKind() {
		for j, second := range byKind() {
			checkWanted(t, in(first, second), want[i][j])
			checkWanted(t, in(first, first, null(), second), want[i][j])
			checkWanted(t, in(first, second, first), want[i][j])
		}
	}
	checkWanted(t, in(null(), num(1), val(byKind()[0].Value), col(colC)), b)
	checkWanted(t, in(num(1), null(), col(colC)), none)
}

// Pr1: and, or, not are of bools and nulls.
func TestKindsOfLogic(t *testing.T) {
	const b, x = api.KindBool, none
	want := [6][6]int{
		{b, b, x, x, x, x},
		{b, b, x, x, x, x},
		{x, x, x, x, x, x},
		{x, x, x, x, x, x},
		{x, x, x, x, x, x},
		{x, x, x, x, x, x},
	}
	for _, op := range logicOps {
		checkPairs(t, op, want)
	}
}

func TestKindsOfUnary(t *testing.T) {
	const n, b, i, f, x = api.KindNull, api.KindBool, api.KindInt, api.KindFloat, none
	for op, want := range map[string][6]int{"-": {n, x, i, f, x, x}, "not": {b, b, x, x, x, x}, "is null": {b, b, b, b, b, b}, "is not null": {b, b, b, b, b, b}} {
		for kind, e := range byKind() {
			checkWanted(t, un(op, e), want[kind])
		}
	}
}

// Pr1: a kid without a kind leaves its parents without one, wherever it stands.
func TestKindsWithin(t *testing.T) {
	bad := bin(col(colC), "+", num(1))
	for _, op := range unaryOps {
		checkWanted(t, un(op, bad), none)
	}
	for _, op := range binaryOps() {
		for _, e := range byKind() {
			checkWanted(t, bin(bad, op, e), none)
			checkWanted(t, bin(e, op, bad), none)
		}
	}
	checkWanted(t, in(bad, num(1)), none)
	checkWanted(t, in(num(1), num(1), bad), none)
	checkWanted(t, bin(truth(true), "or", bin(bad, "=", num(1))), none)
}

func checkPairs(t *testing.T, op string, want [6][6]int) {
	t.Helper()
	for i, first := range byKind() {
		for j, second := range byKind() {
			checkWanted(t, bin(first, op, second), want[i][j])
		}
	}
}

func checkWanted(t *testing.T, e api.Expr, want int) {
	t.Helper()
	if want == none {
		checkNoKind(t, e, api.ErrType)
		return
	}
	checkKind(t, e, want)
}

// Pr2: what an expression is worth is of its kind, or null.
func TestWorthHasKind(t *testing.T) {
	m := newMaker(1)
	for range 6000 {
		kind := 1 + m.IntN(5)
		e := m.expr(kind, 5)
		checkKindOfWorth(t, e, m.row())
	}
	for _, op := range slices.Concat(numberOps, compareOps, logicOps) {
		for _, a := range byKind() {
			for _, b := range byKind() {
				checkKindOfWorth(t, bin(a, op, b), someRow())
			}
		}
	}
}
