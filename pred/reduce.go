package pred

import "vellum/api"

// last is the pending operator or parenthesis that was opened last; zero, if there is none.
func (r *reader) last() pending {
	if len(r.open) == 0 {
		return pending{}
	}
	return r.open[len(r.open)-1]
}

func (r *reader) push(e api.Expr, level int) {
	r.whole = append(r.whole, read{expr: e, level: level})
}

// close makes nodes of the pending operators, from the last one on, that hold together at least as strongly as a level, up to a parenthesis.
func (r *reader) close(level int) {
	for r.last().level >= level {
		p := r.last()
		r.open = r.open[:len(r.open)-1]
		kids := 1
		if p.kind == api.ExprBinary {
			kids = 2
		}
		r.node(p.kind, p.op, p.level, kids)
	}
}

// node puts a node in the place of the last whole parts, its kids.
func (r *reader) node(kind int, op string, level, kids int) {
	from := len(r.whole) - kids
	e := api.Expr{Kind: kind, Op: op, Kids: make([]api.Expr, 0, kids)}
	for _, kid := range r.whole[from:] {
		e.Kids = append(e.Kids, kid.expr)
	}
	r.whole = r.whole[:from]
	r.push(e, level)
}

// first closes what is the first kid of an operator of some level; false, if that may not stand ahead of it.
func (r *reader) first(level int) bool {
	r.close(level)
	return r.whole[len(r.whole)-1].level >= firstLevel(level)
}
