package pred

import (
	"vellum/api"
	"vellum/schema"
	"vellum/value"
	"vellum/words"
)

// Parse is the expression of a text.
func Parse(t api.Table, s string) (api.Expr, api.Errno) {
	if err := schema.Check(t); err != api.OK {
		return api.Expr{}, err
	}
	if len(s) > api.MaxText {
		return api.Expr{}, api.ErrLong
	}
	pieces, ok := words.Split(s, wordSize, signSize)
	if !ok {
		return api.Expr{}, api.ErrPred
	}
	d := newDesk(t)
	r := reader{desk: d, rest: pieces}
	if !r.text() {
		return api.Expr{}, api.ErrPred
	}
	if r.unknown {
		return api.Expr{}, api.ErrNone
	}
	e := r.whole[0].expr
	if _, err := d.check(e); err != api.OK {
		return api.Expr{}, err
	}
	return e, api.OK
}

// wordSize takes what stands behind the e of a number into it.
func wordSize(s string) int {
	n := words.Run(s, "_.")
	if s[0] < '0' || s[0] > '9' {
		return n
	}
	for n < len(s) && s[n-1] == 'e' && (s[n] == '+' || s[n] == '-') {
		n += 1 + words.Run(s[n+1:], "_.")
	}
	return n
}

func signSize(s string) int {
	if len(s) >= 2 {
		switch s[:2] {
		case opOther, opAtMost, opAtLeast:
			return 2
		}
	}
	switch s[0] {
	case '(', ')', ',', '+', '-', '*', '/', '%', '=', '<', '>':
		return 1
	}
	return 0
}

// reader goes over the pieces of a text. What it has read waits in lists, not in calls within calls, since a text may be nested as deep as it is long.
type reader struct {
	desk    *desk
	rest    []string
	open    []pending
	whole   []read
	unknown bool // some name is no column's
}

// pending is an operator that waits for its last kid, or (level 0) a parenthesis that waits for its end.
type pending struct {
	kind  int
	op    string
	level int
	from  int // of a list behind in: where its first kid is among the whole ones
}

// read is a part that has been read whole, and how strongly its text holds together.
type read struct {
	expr  api.Expr
	level int
}

// text reads all pieces; false, if they are no expression's. What was read is the one whole part then.
func (r *reader) text() bool {
	for {
		r.ahead()
		if !r.alone() {
			return false
		}
		more, ok := r.behind()
		if !ok {
			return false
		}
		if !more {
			r.close(levelOr)
			return len(r.rest) == 0 && len(r.open) == 0
		}
	}
}

// next is the next piece; empty, if there is none.
func (r *reader) next() string {
	if len(r.rest) == 0 {
		return ""
	}
	return r.rest[0]
}

// skip goes on behind pieces, if these are the next ones.
func (r *reader) skip(pieces ...string) bool {
	if len(r.rest) < len(pieces) {
		return false
	}
	for i, piece := range pieces {
		if r.rest[i] != piece {
			return false
		}
	}
	r.rest = r.rest[len(pieces):]
	return true
}

// ahead reads what stands ahead of a value or a column.
func (r *reader) ahead() {
	for {
		switch {
		case r.skip("("):
			r.open = append(r.open, pending{})
		case r.skip(opMinus):
			r.open = append(r.open, pending{kind: api.ExprUnary, op: opMinus, level: levelMinus})
		case r.last().level <= levelNot && r.skip(opNot):
			r.open = append(r.open, pending{kind: api.ExprUnary, op: opNot, level: levelNot})
		default:
			return
		}
	}
}

// alone reads a value or a column; false, if none is there.
func (r *reader) alone() bool {
	piece := r.next()
	e := api.Expr{Kind: api.ExprValue}
	v, err := value.Parse(piece)
	if err == api.OK {
		e.Value = v
	} else if words.Fits(piece) {
		e = r.column(piece)
	} else {
		return false
	}
	r.rest = r.rest[1:]
	r.push(e, levelAlone)
	return true
}

func (r *reader) column(name string) api.Expr {
	n, err := schema.Column(r.desk.table, name)
	r.unknown = r.unknown || err != api.OK
	return api.Expr{Kind: api.ExprColumn, Column: n}
}

// behind reads what stands behind a value or a column: whether more must come, and false, if it may not stand there.
func (r *reader) behind() (more, ok bool) {
	for {
		switch {
		case r.skip(")"):
			ok = r.end()
		case r.skip("is", "null"):
			ok = r.is(opNull)
		case r.skip("is", "not", "null"):
			ok = r.is(opThere)
		case r.skip("in", "("):
			return true, r.in()
		case r.skip(","):
			return true, r.comma()
		default:
			return r.operator()
		}
		if !ok {
			return false, false
		}
	}
}

// operator reads an operator between two kids; more is false, if none is there.
func (r *reader) operator() (more, ok bool) {
	o := r.desk.binaryOf(r.next())
	if o == nil {
		return false, true
	}
	r.rest = r.rest[1:]
	ok = r.first(o.level)
	r.open = append(r.open, pending{kind: api.ExprBinary, op: o.name, level: o.level})
	return true, ok
}

func (r *reader) is(op string) bool {
	ok := r.first(levelCompared)
	r.node(api.ExprUnary, op, levelCompared, 1)
	return ok
}

func (r *reader) in() bool {
	ok := r.first(levelCompared)
	r.open = append(r.open, pending{kind: api.ExprIn, from: len(r.whole) - 1})
	return ok
}

func (r *reader) comma() bool {
	r.close(levelOr)
	return r.last().kind == api.ExprIn
}

// end is that of what stands between parentheses.
func (r *reader) end() bool {
	r.close(levelOr)
	if len(r.open) == 0 {
		return false
	}
	p := r.last()
	r.open = r.open[:len(r.open)-1]
	if p.kind == api.ExprIn {
		r.node(api.ExprIn, "", levelCompared, len(r.whole)-p.from)
	} else {
		r.whole[len(r.whole)-1].level = levelAlone
	}
	return true
}
