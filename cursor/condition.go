package cursor

import (
	"slices"

	"vellum/api"
	"vellum/lit"
	"vellum/pred"
)

// condition is which rows of a table are taken: all, if there is none.
type condition struct {
	table api.Table
	where api.Expr
}

// conditionOf is in memory of its own: who opens a cursor may change the table and the expression behind that.
func conditionOf(t api.Table, where api.Expr) (condition, api.Errno) {
	if where.Kind == 0 {
		return condition{}, api.OK
	}
	kind, err := pred.Check(t, where)
	if err != api.OK {
		return condition{}, err
	}
	if kind != api.KindBool && kind != api.KindNull {
		return condition{}, api.ErrType
	}
	return condition{ownTable(t), ownExpr(where)}, api.OK
}

func (c condition) takes(row []api.Value) (bool, api.Errno) {
	if c.where.Kind == 0 {
		return true, api.OK
	}
	return pred.Takes(c.table, c.where, row)
}

// ownTable is what of a table expressions hang on. Layer 15 goes over all of a table for each row: so defaults, indexes and references would cost time, beside room.
func ownTable(t api.Table) api.Table {
	own := api.Table{Name: t.Name, Columns: slices.Clone(t.Columns), Key: slices.Clone(t.Key)}
	for i := range own.Columns {
		own.Columns[i].Default = lit.Null()
	}
	return own
}

func ownExpr(e api.Expr) api.Expr {
	e.Kids = slices.Clone(e.Kids)
	for i := range e.Kids {
		e.Kids[i] = ownExpr(e.Kids[i])
	}
	return e
}
