package pred_test

import (
	"reflect"
	"slices"
	"testing"

	"vellum/api"
	"vellum/lit"
	"vellum/pred"
)

// cloned is an expression in memory of its own.
func cloned(e api.Expr) api.Expr {
	kids := e.Kids
	e.Kids = nil
	for _, kid := range kids {
		e.Kids = append(e.Kids, cloned(kid))
	}
	return e
}

// roomy is an expression whose lists have room behind their ends, in which something lies.
func roomy(e api.Expr) api.Expr {
	kids := make([]api.Expr, 0, len(e.Kids)+2)
	for _, kid := range e.Kids {
		kids = append(kids, roomy(kid))
	}
	e.Kids = append(kids, col(99), col(98))[:len(kids)]
	return e
}

func roomsKept(e api.Expr) bool {
	room := e.Kids[:cap(e.Kids)][len(e.Kids):]
	if len(room) < 2 || !alike(room[0], col(99)) || !alike(room[1], col(98)) {
		return false
	}
	return !slices.ContainsFunc(e.Kids, func(kid api.Expr) bool { return !roomsKept(kid) })
}

// R3: what is handed in is not changed, nor what lies in the room behind it.
func TestArgumentsStay(t *testing.T) {
	m := newMaker(13)
	for range 2000 {
		e := roomy(m.expr(api.KindBool, 5))
		before := cloned(e)
		tab, wholeTable := table(), table()
		row := append(m.row(), lit.Int(99))
		wholeRow := slices.Clone(row)
		columns := []int{colB, colA, 99}
		pred.Check(tab, e)
		pred.Eval(tab, e, row[:6])
		pred.Takes(tab, e, row[:6])
		pred.Print(tab, e)
		pred.Bounds(tab, e, columns[:2])
		pred.Columns(e)
		if !alike(e, before) || !roomsKept(e) || !reflect.DeepEqual(tab, wholeTable) || !slices.EqualFunc(row, wholeRow, identical) || !slices.Equal(columns, []int{colB, colA, 99}) {
			t.Fatalf("an argument was changed: %s was %s", show(e), show(before))
		}
	}
}

// lists is all lists of kids of an expression.
func lists(e api.Expr) [][]api.Expr {
	l := [][]api.Expr{e.Kids}
	for _, kid := range e.Kids {
		l = append(l, lists(kid)...)
	}
	return l
}

// R3: no two lists that Parse tells share memory, their spare room neither.
func TestParsedListsAreApart(t *testing.T) {
	m := newMaker(14)
	for range 500 {
		s := printed(t, m.expr(api.KindBool, 6))
		e := parsed(t, s)
		want := cloned(e)
		for _, l := range lists(e) {
			room := l[:cap(l)][len(l):]
			for i := range room {
				room[i] = col(77)
			}
		}
		if !alike(e, want) {
			t.Fatalf("%q: the spare room of a list lies in another one", s)
		}
		met := map[*api.Expr]bool{}
		for _, l := range lists(e) {
			for i := range l {
				if met[&l[i]] {
					t.Fatalf("%q: two lists share a kid", s)
				}
				met[&l[i]] = true
			}
		}
		again := parsed(t, s)
		for _, l := range lists(e) {
			for i := range l {
				l[i] = api.Expr{}
			}
		}
		if !alike(again, want) {
			t.Fatalf("%q: two answers share memory", s)
		}
	}
}

// R3: what Columns tells is new each time.
func TestColumnsAreApart(t *testing.T) {
	e := in(col(1), col(2), col(3))
	first := pred.Columns(e)
	for i := range first {
		first[i] = 50
	}
	checkColumns(t, e, 1, 2, 3)
}

// R4: the same is told of the same, however often it is asked.
func TestToldAgain(t *testing.T) {
	m := newMaker(15)
	for range 500 {
		e, row := m.expr(api.KindBool, 5), m.row()
		v, err := pred.Eval(table(), e, row)
		r, _ := pred.Bounds(table(), e, []int{colA, colB})
		s := printed(t, e)
		for range 3 {
			w, told := pred.Eval(table(), e, row)
			x, _ := pred.Bounds(table(), e, []int{colA, colB})
			if told != err || !identical(v, w) || x != r || printed(t, e) != s {
				t.Fatalf("%s is told otherwise the second time", show(e))
			}
		}
	}
}
