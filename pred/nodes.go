package pred

import (
	"maps"
	"slices"

	"vellum/api"
	"vellum/value"
)

// Columns is the columns that stand in an expression, rising.
// What is still to be looked at waits in a list, since an expression that may not be may be nested deeper than calls can; and a node's kids are looked at once, since lists of kids that stand in one another, or in themselves, might never end.
func Columns(e api.Expr) []int {
	columns := map[int]struct{}{}
	met := map[*api.Expr]struct{}{}
	for waiting := [][]api.Expr{{e}}; len(waiting) > 0; {
		nodes := waiting[len(waiting)-1]
		waiting = waiting[:len(waiting)-1]
		for i := range nodes {
			node := &nodes[i]
			if node.Kind == api.ExprColumn {
				columns[node.Column] = struct{}{}
			}
			if _, again := met[node]; again || len(node.Kids) == 0 {
				continue
			}
			met[node] = struct{}{}
			waiting = append(waiting, node.Kids)
		}
	}
	return slices.Sorted(maps.Keys(columns))
}

// mayBe tells whether an expression may be in the table, which may be.
func (d *desk) mayBe(e api.Expr) bool {
	left := api.MaxNodes
	return d.nodesMayBe(e, api.MaxDeep, &left)
}

// nodesMayBe goes no deeper, and to no more nodes, than may be: there may be without number of them.
func (d *desk) nodesMayBe(e api.Expr, deep int, left *int) bool {
	*left--
	if deep == 0 || *left < 0 || !d.nodeMayBe(e) {
		return false
	}
	for _, kid := range e.Kids {
		if !d.nodesMayBe(kid, deep-1, left) {
			return false
		}
	}
	return true
}

// nodeMayBe tells whether a node has the parts that its kind has, and no others.
func (d *desk) nodeMayBe(e api.Expr) bool {
	kids := len(e.Kids)
	switch e.Kind {
	case api.ExprValue:
		return e.Op == "" && e.Column == 0 && kids == 0 && value.Check(e.Value) == api.OK
	case api.ExprColumn:
		return e.Op == "" && e.Column >= 0 && e.Column < len(d.table.Columns) && kids == 0 && noValue(e)
	case api.ExprUnary:
		return d.unaryOf(e.Op) != nil && e.Column == 0 && kids == 1 && noValue(e)
	case api.ExprBinary:
		return d.binaryOf(e.Op) != nil && e.Column == 0 && kids == 2 && noValue(e)
	case api.ExprIn:
		return e.Op == "" && e.Column == 0 && kids >= 2 && noValue(e)
	}
	return false
}

// noValue holds the bits against each other: a null with -0 beside it is no value that may be.
func noValue(e api.Expr) bool {
	return value.Same(e.Value, api.Value{})
}
