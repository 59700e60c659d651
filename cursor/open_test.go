package cursor_test

import (
	"math"
	"strings"
	"testing"

	"vellum/api"
	"vellum/cursor"
	"vellum/index"
	"vellum/lit"
	"vellum/pred"
	"vellum/schema"
	"vellum/store"
)

// refuses holds that Open and All both refuse for one reason, and tell nothing beside it.
func refuses(t *testing.T, tab api.Table, s *store.Store, x *index.Index, q api.Scan, want api.Errno) {
	t.Helper()
	for _, most := range []int{math.MinInt, 0, 1, many} {
		q.Most = most
		c, err := cursor.Open(tab, s, x, api.View{Stamp: 1}, q)
		if c != nil || err != want {
			t.Fatalf("Open: %v, %d, want %d", c, err, want)
		}
		l, r, err := cursor.All(tab, s, x, api.View{Stamp: 1}, q)
		if len(l) != 0 || r != (api.Range{}) || err != want {
			t.Fatalf("All: %v, %v, %d, want %d", l, r, err, want)
		}
	}
}

func badTables() []api.Table {
	l := make([]api.Table, 6)
	for i := range l {
		l[i] = table()
	}
	l[0].Name = "int"
	l[1].Columns = make([]api.Column, 65)
	l[2].Columns[1].Name = "a"
	l[3].Columns[1].Default = lit.Text("x")
	l[4].Key = nil
	l[5].Refs[0].Columns = nil
	return append(l, api.Table{})
}

// Cu1: a table that may not be is told ahead of all else, a nil ahead of a condition that may not be.
func TestRefusedInOrder(t *testing.T) {
	s, x := made(t, ones(1, 2)...)
	bad := api.Expr{Kind: 9}
	for _, tab := range badTables() {
		want := schema.Check(tab)
		if want == api.OK {
			t.Fatal("the table may be")
		}
		refuses(t, tab, s, x, api.Scan{Range: all()}, want)
		refuses(t, tab, nil, nil, api.Scan{Range: all(), Where: bad}, want)
	}
	for _, e := range []api.Expr{{}, bad, {Kind: api.ExprColumn}} {
		refuses(t, table(), nil, x, api.Scan{Range: all(), Where: e}, api.ErrArg)
		refuses(t, table(), s, nil, api.Scan{Range: all(), Where: e}, api.ErrArg)
		refuses(t, table(), nil, nil, api.Scan{Range: all(), Where: e}, api.ErrArg)
	}
}

func nested(deep int) api.Expr {
	e := api.Expr{Kind: api.ExprValue, Value: lit.Bool(true)}
	for range deep - 1 {
		e = api.Expr{Kind: api.ExprUnary, Op: "not", Kids: []api.Expr{e}}
	}
	return e
}

// Cu1: what layer 15 refuses of a condition, and then one that is of another kind than bool and null.
func TestConditionsThatMayNotBe(t *testing.T) {
	s, x := made(t, ones(1, 2)...)
	column, text := api.Expr{Kind: api.ExprColumn}, api.Expr{Kind: api.ExprValue, Value: lit.Text("x")}
	for _, c := range []struct {
		e    api.Expr
		want api.Errno
	}{
		{api.Expr{Kind: 6}, api.ErrExpr},
		{api.Expr{Kind: -1}, api.ErrExpr},
		{api.Expr{Kind: api.ExprColumn, Column: 2}, api.ErrExpr},
		{api.Expr{Kind: api.ExprBinary, Op: "=", Kids: []api.Expr{column}}, api.ErrExpr},
		{nested(101), api.ErrExpr},
		{api.Expr{Kind: api.ExprBinary, Op: "=", Kids: []api.Expr{column, text}}, api.ErrType},
		{api.Expr{Kind: api.ExprBinary, Op: "+", Kids: []api.Expr{column, column}}, api.ErrType},
		{column, api.ErrType},
		{text, api.ErrType},
		{api.Expr{Kind: api.ExprValue, Value: lit.Int(1)}, api.ErrType},
		{api.Expr{Kind: api.ExprValue, Value: lit.Float(1)}, api.ErrType},
		{api.Expr{Kind: api.ExprValue, Value: lit.Bytes("")}, api.ErrType},
	} {
		refuses(t, table(), s, x, api.Scan{Range: all(), Where: c.e}, c.want)
	}
}

// Cu1: a condition of bool, or of null, may be; null takes no row.
func TestConditionsThatMayBe(t *testing.T) {
	s, x := made(t, ones(1, 2, 3)...)
	v := api.View{Stamp: 1}
	tells(t, s, x, v, api.Scan{Range: all(), Most: many, Where: api.Expr{Kind: api.ExprValue}}, all())
	tells(t, s, x, v, api.Scan{Range: all(), Most: many, Where: nested(100)}, all())
	tells(t, s, x, v, api.Scan{Range: all(), Most: many, Where: nested(99)}, all(), 1, 2, 3)
	tells(t, s, x, v, api.Scan{Range: all(), Most: many, Where: where(t, table(), "b = 1")}, all())
	tells(t, s, x, v, api.Scan{Range: all(), Most: many, Where: where(t, table(), "b is null and a <> 2")}, all(), 1, 3)
}

// Words: a condition of the Kind 0 is none, whatever else is in it; a scan's Index does not matter.
func TestNoCondition(t *testing.T) {
	s, x := made(t, ones(1, 2)...)
	e := api.Expr{Op: "+", Column: -4, Value: api.Value{Kind: 99}, Kids: []api.Expr{{Kind: 7}, {}}}
	e.Kids[1].Kids = e.Kids
	tells(t, s, x, api.View{Stamp: 1}, api.Scan{Range: all(), Most: many, Where: e}, all(), 1, 2)
	for _, n := range []int{math.MinInt, -2, -1, 0, 1, 99} {
		tells(t, s, x, api.View{Stamp: 1}, api.Scan{Index: n, Range: all(), Most: many}, all(), 1, 2)
	}
}

// Cu1 to Cu3: of one that Open did not give nothing is told.
func TestCursorsThatWereNotOpened(t *testing.T) {
	s, x := made(t, ones(1, 2)...)
	c := opened(t, table(), s, x, api.View{Stamp: 1}, api.Scan{Range: all(), Most: many})
	copied := *c
	for _, c := range []*cursor.Cursor{nil, {}, new(cursor.Cursor), &copied} {
		for range 2 {
			r, there, err := c.Next()
			if there || err != api.ErrArg || shown(r) != shown(api.Seen{}) {
				t.Errorf("Next: %v, %v, %d", r, there, err)
			}
			wants(t, "Through", c.Through(), api.Range{})
		}
	}
	steps(t, c, 1, api.Range{Hi: keyOf(1) + "\x00"})
}

// Cu1, R1: with the index of another table, or of another store, calls end.
func TestIndexOfAnotherTable(t *testing.T) {
	other := api.Table{Name: "o", Columns: []api.Column{{Name: "x", Kind: api.KindText}}, Key: []int{0}}
	texts := filled(t, []api.Value{lit.Text("a")}, []api.Value{lit.Text(strings.Repeat("b", 999))})
	s, _ := made(t, ones(1, 2)...)
	e := where(t, table(), "a > 0 and b is null")
	for _, x := range []*index.Index{built(t, other, -1, texts), built(t, table(), 0, s)} {
		for _, in := range []*store.Store{s, texts} {
			for _, tab := range []api.Table{table(), other} {
				if _, err := pred.Check(tab, e); err != api.OK {
					continue
				}
				for _, back := range []bool{false, true} {
					q := api.Scan{Range: all(), Most: many, Where: e, Back: back}
					cursor.All(tab, in, x, api.View{Stamp: 1}, q)
					for c, there := opened(t, tab, in, x, api.View{Stamp: 1}, q), true; there; {
						_, there, _ = c.Next()
						c.Through()
					}
				}
			}
		}
	}
}
