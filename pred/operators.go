package pred

import "vellum/api"

// How strongly what stands in a text holds together, from the weakest on.
const (
	levelOr = 1 + iota
	levelAnd
	levelNot
	levelCompared
	levelSum
	levelProduct
	levelMinus
	levelAlone
)

const (
	opMinus   = "-"
	opNot     = "not"
	opNull    = "is null"
	opThere   = "is not null"
	opOr      = "or"
	opAnd     = "and"
	opSame    = "="
	opOther   = "<>"
	opBelow   = "<"
	opAtMost  = "<="
	opAbove   = ">"
	opAtLeast = ">="
)

// operand is what a kid is worth, worked out when it is asked for.
type operand func() (api.Value, api.Errno)

// unary is an operator of one kid.
type unary struct {
	name  string
	level int
	kind  func(kid int) (int, bool)
	worth func(kid api.Value) (api.Value, api.Errno)
}

// binary is an operator of two kids, the second one of which it need not look at.
type binary struct {
	name  string
	level int
	kind  func(first, second int) (int, bool)
	worth func(first api.Value, second operand) (api.Value, api.Errno)
}

func unaryOperators() []unary {
	return []unary{
		{opMinus, levelMinus, kindOfMinus, negated},
		{opNot, levelNot, kindOfNot, opposite},
		{opNull, levelCompared, kindOfAny, whether(isNull)},
		{opThere, levelCompared, kindOfAny, whether(func(v api.Value) bool { return !isNull(v) })},
	}
}

func binaryOperators() []binary {
	return []binary{
		{opOr, levelOr, kindOfLogic, decidedBy(true)},
		{opAnd, levelAnd, kindOfLogic, decidedBy(false)},
		{opSame, levelCompared, kindOfCompared, compared(func(c int) bool { return c == 0 })},
		{opOther, levelCompared, kindOfCompared, compared(func(c int) bool { return c != 0 })},
		{opBelow, levelCompared, kindOfCompared, compared(func(c int) bool { return c < 0 })},
		{opAtMost, levelCompared, kindOfCompared, compared(func(c int) bool { return c <= 0 })},
		{opAbove, levelCompared, kindOfCompared, compared(func(c int) bool { return c > 0 })},
		{opAtLeast, levelCompared, kindOfCompared, compared(func(c int) bool { return c >= 0 })},
		{"+", levelSum, kindOfNumbers, numbers(sum, func(a, b float64) float64 { return a + b })},
		{opMinus, levelSum, kindOfNumbers, numbers(difference, func(a, b float64) float64 { return a - b })},
		{"*", levelProduct, kindOfNumbers, numbers(product, func(a, b float64) float64 { return a * b })},
		{"/", levelProduct, kindOfNumbers, numbers(quotient, func(a, b float64) float64 { return a / b })},
		{"%", levelProduct, kindOfInts, ints(remainder)},
	}
}

// unaryOf is nil, if there is no such operator.
func (d *desk) unaryOf(name string) *unary {
	for i := range d.unary {
		if d.unary[i].name == name {
			return &d.unary[i]
		}
	}
	return nil
}

// binaryOf is nil, if there is no such operator.
func (d *desk) binaryOf(name string) *binary {
	for i := range d.binary {
		if d.binary[i].name == name {
			return &d.binary[i]
		}
	}
	return nil
}

// firstLevel is the least level of what may stand ahead of an operator of some level, as its first kid, without parentheses: comparisons do not stand beside one another, all else stands from the left.
func firstLevel(level int) int {
	if level == levelCompared {
		return level + 1
	}
	return level
}
