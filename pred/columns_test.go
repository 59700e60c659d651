package pred_test

import (
	"math"
	"slices"
	"testing"

	"vellum/api"
	"vellum/pred"
)

func checkColumns(t *testing.T, e api.Expr, want ...int) {
	t.Helper()
	if l := pred.Columns(e); !slices.Equal(l, want) {
		t.Errorf("Columns = %v, want %v", l, want)
	}
}

// Pr1: rising, each once.
func TestColumns(t *testing.T) {
	checkColumns(t, num(1))
	checkColumns(t, null())
	checkColumns(t, col(0), 0)
	checkColumns(t, bin(col(5), "+", bin(col(2), "*", col(5))), 2, 5)
	checkColumns(t, in(col(3), num(1), un("-", col(1)), col(3), col(0)), 0, 1, 3)
	checkColumns(t, bin(un("is null", col(4)), "and", un("not", col(2))), 2, 4)
}

// Pr1: whatever the expression is.
func TestColumnsOfAnything(t *testing.T) {
	checkColumns(t, api.Expr{})
	checkColumns(t, api.Expr{Kind: 9, Column: 3})
	checkColumns(t, api.Expr{Kind: api.ExprValue, Column: 3})
	checkColumns(t, api.Expr{Kind: 9, Kids: []api.Expr{col(-4), {}, col(math.MaxInt), col(math.MinInt), col(1000)}}, math.MinInt, -4, 1000, math.MaxInt)
	checkColumns(t, api.Expr{Kind: api.ExprColumn, Op: "x", Column: 7, Kids: []api.Expr{col(2), {Kind: api.ExprValue, Kids: []api.Expr{col(1)}}}}, 1, 2, 7)
	for _, e := range misshapen() {
		pred.Columns(e)
	}
}

// Pr1: wide ones, deep ones, and ones whose lists stand in one another.
func TestColumnsOfMany(t *testing.T) {
	deep := col(3)
	for i := range 400000 {
		deep = bin(deep, "+", col(i%2))
	}
	checkColumns(t, deep, 0, 1, 3)
	right := col(3)
	for range 300000 {
		right = bin(col(1), "+", right)
	}
	checkColumns(t, right, 1, 3)
	kids := []api.Expr{}
	want := []int{}
	for i := range 200000 {
		kids = append(kids, col(200000-i))
		want = append(want, i+1)
	}
	checkColumns(t, in(kids...), want...)
	shared := col(2)
	for range 200 {
		shared = bin(shared, "and", shared)
		shared.Kids[1].Kids = shared.Kids[0].Kids
	}
	checkColumns(t, shared, 2)
	round := make([]api.Expr, 3)
	round[0], round[1], round[2] = in(), col(6), bin(col(4), "=", col(5))
	round[0].Kids = round
	checkColumns(t, round[0], 4, 5, 6)
}
