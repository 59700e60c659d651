package pred

import (
	"vellum/api"
	"vellum/lit"
	"vellum/num"
	"vellum/value"
)

// worth is what an expression that has a kind is worth for a row of the table.
func (d *desk) worth(e api.Expr, row []api.Value) (api.Value, api.Errno) {
	switch e.Kind {
	case api.ExprValue:
		return e.Value, api.OK
	case api.ExprColumn:
		return row[e.Column], api.OK
	}
	first, err := d.worth(e.Kids[0], row)
	if err != api.OK {
		return api.Value{}, err
	}
	switch e.Kind {
	case api.ExprUnary:
		return d.unaryOf(e.Op).worth(first)
	case api.ExprBinary:
		return d.binaryOf(e.Op).worth(first, d.operand(e.Kids[1], row))
	}
	return d.isIn(first, e.Kids[1:], row)
}

func (d *desk) operand(e api.Expr, row []api.Value) operand {
	return func() (api.Value, api.Errno) { return d.worth(e, row) }
}

func (d *desk) isIn(first api.Value, others []api.Expr, row []api.Value) (api.Value, api.Errno) {
	same := d.binaryOf(opSame).worth
	found := lit.Bool(false)
	for _, other := range others {
		v, err := same(first, d.operand(other, row))
		switch {
		case err != api.OK:
			return api.Value{}, err
		case isTrue(v):
			return v, api.OK
		case isNull(v):
			found = v
		}
	}
	return found, api.OK
}

func negated(v api.Value) (api.Value, api.Errno) {
	switch v.Kind {
	case api.KindInt:
		return told(difference(0, v.N))
	case api.KindFloat:
		return num.Told(-v.F), api.OK
	}
	return v, api.OK
}

func opposite(v api.Value) (api.Value, api.Errno) {
	if isNull(v) {
		return v, api.OK
	}
	return lit.Bool(!isTrue(v)), api.OK
}

func whether(is func(v api.Value) bool) func(api.Value) (api.Value, api.Errno) {
	return func(v api.Value) (api.Value, api.Errno) { return lit.Bool(is(v)), api.OK }
}

// decidedBy is what an operator does that is worth this bool if one of its kids is, whatever the other one is.
func decidedBy(b bool) func(api.Value, operand) (api.Value, api.Errno) {
	deciding := lit.Bool(b)
	return func(first api.Value, ask operand) (api.Value, api.Errno) {
		if value.Same(first, deciding) {
			return deciding, api.OK
		}
		second, err := ask()
		switch {
		case err != api.OK:
			return api.Value{}, err
		case value.Same(second, deciding):
			return deciding, api.OK
		case isNull(first) || isNull(second):
			return lit.Null(), api.OK
		}
		return lit.Bool(!b), api.OK
	}
}

// strict is what an operator does that looks at both its kids, and is null if one of them is.
func strict(do func(a, b api.Value) (api.Value, api.Errno)) func(api.Value, operand) (api.Value, api.Errno) {
	return func(first api.Value, ask operand) (api.Value, api.Errno) {
		second, err := ask()
		switch {
		case err != api.OK:
			return api.Value{}, err
		case isNull(first) || isNull(second):
			return lit.Null(), api.OK
		}
		return do(first, second)
	}
}

func compared(holds func(c int) bool) func(api.Value, operand) (api.Value, api.Errno) {
	return strict(func(a, b api.Value) (api.Value, api.Errno) {
		c, ok := value.Numbers(a, b)
		if !ok {
			c = value.Compare(a, b)
		}
		return lit.Bool(holds(c)), api.OK
	})
}

func numbers(ofInts intsFunc, ofFloats func(a, b float64) float64) func(api.Value, operand) (api.Value, api.Errno) {
	return strict(func(a, b api.Value) (api.Value, api.Errno) {
		if a.Kind == api.KindInt && b.Kind == api.KindInt {
			return told(ofInts(a.N, b.N))
		}
		return num.Told(ofFloats(num.Float(a), num.Float(b))), api.OK
	})
}

func ints(ofInts intsFunc) func(api.Value, operand) (api.Value, api.Errno) {
	return strict(func(a, b api.Value) (api.Value, api.Errno) { return told(ofInts(a.N, b.N)) })
}
