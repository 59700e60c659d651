package pred

import (
	"math"
	"strings"

	"vellum/api"
	"vellum/value"
)

// leastInt is how the least int stands in a text, where no number is below 0 and none above the greatest int.
const leastInt = "-9223372036854775807 - 1"

// Print is an expression's text.
func Print(t api.Table, e api.Expr) (string, api.Errno) {
	d := newDesk(t)
	if _, err := d.check(e); err != api.OK {
		return "", err
	}
	p := printer{desk: d}
	p.put(e, levelOr)
	if p.long {
		return "", api.ErrLong
	}
	return string(p.out), api.OK
}

// printer writes an expression that has a kind. It stops at the longest text that may be: values alone may be a hundred times as long.
type printer struct {
	desk *desk
	out  []byte
	long bool
}

func (p *printer) write(s string) {
	p.long = p.long || len(s) > api.MaxText-len(p.out)
	if !p.long {
		p.out = append(p.out, s...)
	}
}

// put writes a node where one of some level may stand, or one that holds together more strongly.
func (p *printer) put(e api.Expr, level int) {
	if p.desk.level(e) >= level {
		p.node(e)
		return
	}
	p.write("(")
	p.node(e)
	p.write(")")
}

func (p *printer) node(e api.Expr) {
	if p.long {
		return
	}
	switch e.Kind {
	case api.ExprValue:
		p.write(literal(e.Value))
	case api.ExprColumn:
		p.write(p.desk.table.Columns[e.Column].Name)
	case api.ExprUnary:
		p.unary(e)
	case api.ExprBinary:
		level := p.desk.level(e)
		p.put(e.Kids[0], firstLevel(level))
		p.write(" " + e.Op + " ")
		p.put(e.Kids[1], level+1)
	case api.ExprIn:
		p.put(e.Kids[0], firstLevel(levelCompared))
		p.write(" in (")
		p.list(e.Kids[1:])
		p.write(")")
	}
}

func (p *printer) unary(e api.Expr) {
	kid := e.Kids[0]
	switch e.Op {
	case opMinus:
		p.write(opMinus)
		if p.desk.level(kid) == levelMinus {
			p.write(" ")
		}
		p.put(kid, levelMinus)
	case opNot:
		p.write(opNot + " ")
		p.put(kid, levelNot)
	default:
		p.put(kid, firstLevel(levelCompared))
		p.write(" " + e.Op)
	}
}

func (p *printer) list(l []api.Expr) {
	for i, e := range l {
		if i > 0 {
			p.write(", ")
		}
		p.put(e, levelOr)
	}
}

func literal(v api.Value) string {
	if isLeast(v) {
		return leastInt
	}
	// A value of an expression that may be has a text.
	text, _ := value.Text(v)
	return text
}

// level is how strongly a node's text holds together.
func (d *desk) level(e api.Expr) int {
	switch e.Kind {
	case api.ExprValue:
		return levelOf(e.Value)
	case api.ExprUnary:
		return d.unaryOf(e.Op).level
	case api.ExprBinary:
		return d.binaryOf(e.Op).level
	case api.ExprIn:
		return levelCompared
	}
	return levelAlone
}

// levelOf is that of the operators that are read where a value below 0 was written.
func levelOf(v api.Value) int {
	switch {
	case isLeast(v):
		return levelSum
	case isNumber(v.Kind) && strings.HasPrefix(literal(v), opMinus):
		return levelMinus
	}
	return levelAlone
}

func isLeast(v api.Value) bool {
	return v.Kind == api.KindInt && v.N == math.MinInt64
}
