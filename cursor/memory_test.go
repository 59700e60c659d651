package cursor_test

import (
	"fmt"
	"testing"

	"vellum/api"
	"vellum/cursor"
	"vellum/lit"
)

// soil writes into all of a list's memory, with the room behind its end.
func soil[T any](l []T, with T) {
	l = l[:cap(l)]
	for i := range l {
		l[i] = with
	}
}

func soilTable(t api.Table) {
	for _, x := range t.Indexes {
		soil(x.Columns, 77)
	}
	for _, x := range t.Refs {
		soil(x.Columns, 77)
	}
	soil(t.Columns, api.Column{Name: "soiled"})
	soil(t.Key, 77)
	soil(t.Indexes, api.Index{Name: "soiled"})
	soil(t.Refs, api.Ref{Table: "soiled"})
}

func soilExpr(e api.Expr) {
	for _, kid := range e.Kids {
		soilExpr(kid)
	}
	soil(e.Kids, api.Expr{Kind: 99})
}

// roomy is a table with room behind the ends of its lists, in which something lies.
func roomy() api.Table {
	t := table()
	t.Columns = append(t.Columns, api.Column{Name: "behind"})[:2]
	t.Key = append(t.Key, 99)[:1]
	t.Indexes = append(t.Indexes, api.Index{Name: "behind"})[:1]
	t.Refs = append(t.Refs, api.Ref{Table: "behind"})[:1]
	return t
}

// roomyExpr is an expression with room behind all lists of kids.
func roomyExpr(e api.Expr) api.Expr {
	if len(e.Kids) == 0 {
		return e
	}
	kids := make([]api.Expr, 0, len(e.Kids)+1)
	for _, kid := range e.Kids {
		kids = append(kids, roomyExpr(kid))
	}
	e.Kids = append(kids, api.Expr{Op: "behind"})[:len(kids)]
	return e
}

// whole is all of a table and an expression, with the room behind their lists.
func whole(t api.Table, e api.Expr) string {
	text := fmt.Sprint(t.Columns[:cap(t.Columns)], t.Key[:cap(t.Key)], t.Indexes[:cap(t.Indexes)], t.Refs[:cap(t.Refs)])
	return text + wholeExpr(e)
}

func wholeExpr(e api.Expr) string {
	text := fmt.Sprint(e.Kind, e.Op, e.Column, e.Value, "(")
	for _, kid := range e.Kids[:cap(e.Kids)] {
		text += wholeExpr(kid)
	}
	return text + ")"
}

// R3: neither the table nor the condition is changed or kept; nor what lies behind the ends of their lists.
func TestArgumentsAreNotKept(t *testing.T) {
	s, x := made(t, pair(1, 5), pair(2, 6), pair(3, 5), pair(4, 7))
	for _, back := range []bool{false, true} {
		tab, e := roomy(), roomyExpr(where(t, table(), "(b = 5 or a = 4) and not (a in (2, b))"))
		was := whole(tab, e)
		q := api.Scan{Range: all(), Most: many, Where: e, Back: back}
		c := opened(t, tab, s, x, api.View{Stamp: 1}, q)
		want, _, err := cursor.All(tab, s, x, api.View{Stamp: 1}, q)
		wants(t, "All", err, api.OK)
		wants(t, "how many rows", len(want), 3)
		first, _, _ := c.Next()
		wants(t, "the arguments", whole(tab, e), was)
		soilExpr(e)
		soilTable(tab)
		rest, err := told(c)
		wants(t, "what is refused", err, api.OK)
		wants(t, "the rows", shown(append([]api.Seen{first}, rest...)...), shown(want...))
	}
}

// R3: a list of values is not changed, nor what lies behind its end.
func TestFoldChangesNothing(t *testing.T) {
	for _, what := range append(folds(), 9) {
		l := list(lit.Null(), lit.Int(3), lit.Null(), lit.Float(1), lit.Int(2), lit.Text("behind"))[:5]
		was := fmt.Sprint(l[:cap(l)])
		cursor.Fold(what, l)
		wants(t, "the list", fmt.Sprint(l[:cap(l)]), was)
	}
}

// R3: whoever soils what was told changes nothing; no two lists of an answer share memory.
func TestAnswersShareNothing(t *testing.T) {
	s, x := made(t, pair(1, 5), pair(2, 6), pair(3, 7))
	v, q := api.View{Stamp: 1}, api.Scan{Range: all(), Most: many, Where: where(t, table(), "a > 0")}
	want, _, _ := cursor.All(table(), s, x, v, q)
	was := shown(want...)
	c := opened(t, table(), s, x, v, q)
	for range 3 {
		r, there, _ := c.Next()
		wants(t, "there", there, true)
		soil(r.Row, lit.Text("soiled"))
		l, _, _ := cursor.All(table(), s, x, v, q)
		for i := range l {
			soil(l[i].Row, lit.Text("soiled"))
			wants(t, "the rows behind it", shown(l[i+1:]...), shown(want[i+1:]...))
		}
		soil(l, api.Seen{Slot: 99})
		again, _, _ := cursor.All(table(), s, x, v, q)
		wants(t, "All", shown(again...), was)
		wants(t, "what was told", shown(want...), was)
	}
}

// R3: what was told stays as it was told, whatever is written behind it.
func TestAnswersStay(t *testing.T) {
	s, x := made(t, pair(1, 5), pair(2, 6))
	v, q := api.View{Txn: 2, Stamp: 1}, api.Scan{Range: all(), Most: many}
	c := opened(t, table(), s, x, v, q)
	r, _, _ := c.Next()
	l, _, _ := cursor.All(table(), s, x, v, q)
	was := shown(append(l, r)...)
	s.Write(0, 2, api.Write{Row: pair(1, 99)}, 1)
	s.Settle(2, 2)
	s.Prune(2)
	x.Sweep(s)
	wants(t, "what was told", shown(append(l, r)...), was)
}

// R4: cursors know nothing of one another, and change neither the store nor the index.
func TestCursorsAreApart(t *testing.T) {
	s, x := made(t, ones(1, 2, 3)...)
	state := func() string { return fmt.Sprint(s.Slots(), s.Versions(0), s.Intent(0), x.Find(all(), false, many)) }
	was := state()
	v := api.View{Stamp: 1}
	a := opened(t, table(), s, x, v, api.Scan{Range: all(), Most: many})
	b := opened(t, table(), s, x, v, api.Scan{Range: all(), Most: 1})
	steps(t, a, 1, upTo(all(), 1))
	steps(t, a, 2, upTo(all(), 2))
	steps(t, b, 1, upTo(all(), 1))
	ends(t, b, api.OK, upTo(all(), 1))
	steps(t, a, 3, upTo(all(), 3))
	ends(t, a, api.OK, all())
	wants(t, "the store and the index", state(), was)
}
