package pred

import (
	"slices"

	"vellum/api"
	"vellum/code"
	"vellum/lit"
	"vellum/value"
)

// Bounds is a range in which the key of each row is that an expression takes.
func Bounds(t api.Table, e api.Expr, columns []int) (api.Range, api.Errno) {
	d := newDesk(t)
	if err := d.checkTruth(e); err != api.OK {
		return api.Range{}, err
	}
	if len(columns) == 0 || !apart(columns, len(t.Columns)) {
		return api.Range{}, api.ErrArg
	}
	parts := d.parts(e, nil)
	fixed := fixedValues(parts, columns)
	var lower, upper *part
	if len(fixed) < len(columns) {
		next := columns[len(fixed)]
		lower = sharpest(parts, next, opAbove, opAtLeast, 1)
		upper = sharpest(parts, next, opBelow, opAtMost, -1)
	}
	r, err := between(fixed, lower, upper)
	if err != api.OK {
		return api.Range{Open: true}, api.OK
	}
	return r, api.OK
}

// apart tells whether all are columns of a table that has so many, and none stands twice; so there are no more of them than that.
func apart(columns []int, count int) bool {
	var met [api.MaxColumns]bool
	for _, column := range columns {
		if column < 0 || column >= count || met[column] {
			return false
		}
		met[column] = true
	}
	return true
}

// part says how a column of each row that is taken stands to a value.
type part struct {
	column int
	op     string
	value  api.Value
}

// parts is those that count: some that were found ahead, and behind them an expression's, from the left.
func (d *desk) parts(e api.Expr, ahead []part) []part {
	if e.Kind != api.ExprBinary {
		return ahead
	}
	if e.Op == opAnd {
		return d.parts(e.Kids[1], d.parts(e.Kids[0], ahead))
	}
	first, second := e.Kids[0], e.Kids[1]
	switch {
	case turned(e.Op) == "":
		return ahead
	case d.isHeld(first, second):
		return append(ahead, part{first.Column, e.Op, second.Value})
	case d.isHeld(second, first):
		return append(ahead, part{second.Column, turned(e.Op), first.Value})
	}
	return ahead
}

// turned is the comparison that says the same with its kids in each other's place; empty, if it says of no keys where they are.
func turned(op string) string {
	switch op {
	case opSame:
		return opSame
	case opBelow:
		return opAbove
	case opAtMost:
		return opAtLeast
	case opAbove:
		return opBelow
	case opAtLeast:
		return opAtMost
	}
	return ""
}

// isHeld tells whether a column is held against a value of its own kind: keys stand by kinds first, so that one of another kind says nothing of them.
func (d *desk) isHeld(column, against api.Expr) bool {
	return column.Kind == api.ExprColumn && against.Kind == api.ExprValue && against.Value.Kind == d.table.Columns[column.Column].Kind
}

func fixedValues(parts []part, columns []int) []api.Value {
	var fixed []api.Value
	for _, column := range columns {
		i := slices.IndexFunc(parts, func(p part) bool { return p.column == column && p.op == opSame })
		if i < 0 {
			break
		}
		fixed = append(fixed, parts[i].value)
	}
	return fixed
}

// sharpest is the part that leaves the fewest values of a column: by an operator that leaves its own value out, or one that does not; with the greatest value, if sign is 1, or the least one, if it is -1. It is nil, if there is none.
func sharpest(parts []part, column int, out, in string, sign int) *part {
	var best *part
	for i := range parts {
		p := &parts[i]
		if p.column == column && (p.op == out || p.op == in) && (best == nil || sharper(p, best, out, sign)) {
			best = p
		}
	}
	return best
}

func sharper(p, best *part, out string, sign int) bool {
	c := sign * value.Compare(p.value, best.value)
	return c > 0 || c == 0 && p.op == out
}

// between is the keys that begin with fixed values, and go on between two ends, as far as there are ends; or what layer 2 refuses.
func between(fixed []api.Value, lower, upper *part) (api.Range, api.Errno) {
	r, err := code.Begins(fixed)
	if err != api.OK {
		return api.Range{}, err
	}
	if lower == nil && upper != nil {
		// Null stands below all values, and no comparison takes it.
		lower = &part{op: opAbove, value: lit.Null()}
	}
	if lower != nil {
		from, err := code.From(append(slices.Clone(fixed), lower.value), lower.op == opAtLeast)
		if err != api.OK {
			return api.Range{}, err
		}
		r = code.Both(r, from)
	}
	if upper != nil {
		to, err := code.To(append(slices.Clone(fixed), upper.value), upper.op == opAtMost)
		if err != api.OK {
			return api.Range{}, err
		}
		r = code.Both(r, to)
	}
	return r, api.OK
}
