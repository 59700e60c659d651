package pred

import "vellum/api"

// kind is the kind of an expression that may be; false, if it has none.
func (d *desk) kind(e api.Expr) (int, bool) {
	kids := make([]int, 0, len(e.Kids))
	for _, kid := range e.Kids {
		kind, ok := d.kind(kid)
		if !ok {
			return 0, false
		}
		kids = append(kids, kind)
	}
	switch e.Kind {
	case api.ExprValue:
		return e.Value.Kind, true
	case api.ExprColumn:
		return d.table.Columns[e.Column].Kind, true
	case api.ExprUnary:
		return d.unaryOf(e.Op).kind(kids[0])
	case api.ExprBinary:
		return d.binaryOf(e.Op).kind(kids[0], kids[1])
	}
	return kindOfIn(kids)
}

func kindOfMinus(kid int) (int, bool) {
	return kid, nullOrNumber(kid)
}

func kindOfNot(kid int) (int, bool) {
	return api.KindBool, nullOr(kid, api.KindBool)
}

func kindOfAny(int) (int, bool) {
	return api.KindBool, true
}

func kindOfLogic(first, second int) (int, bool) {
	return api.KindBool, nullOr(first, api.KindBool) && nullOr(second, api.KindBool)
}

func kindOfCompared(first, second int) (int, bool) {
	return api.KindBool, nullOr(first, second) || second == api.KindNull || isNumber(first) && isNumber(second)
}

// kindOfNumbers is the greater kind: a float goes ahead of an int, and each number ahead of null.
func kindOfNumbers(first, second int) (int, bool) {
	return max(first, second), nullOrNumber(first) && nullOrNumber(second)
}

func kindOfInts(first, second int) (int, bool) {
	return max(first, second), nullOr(first, api.KindInt) && nullOr(second, api.KindInt)
}

func kindOfIn(kids []int) (int, bool) {
	for _, kid := range kids[1:] {
		if _, ok := kindOfCompared(kids[0], kid); !ok {
			return 0, false
		}
	}
	return api.KindBool, true
}

func isNumber(kind int) bool {
	return kind == api.KindInt || kind == api.KindFloat
}

func nullOrNumber(kind int) bool {
	return kind == api.KindNull || isNumber(kind)
}

func nullOr(kind, other int) bool {
	return kind == api.KindNull || kind == other
}
