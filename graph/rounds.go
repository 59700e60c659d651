package graph

import "slices"

// targets is, of each place, those to which edges of some kinds lead from it, each once.
func targets(out [][]edge, kinds ...int) [][]int {
	next := make([][]int, len(out))
	for from, l := range out {
		last := -1
		for _, e := range l {
			if e.to != last && slices.Contains(kinds, e.kind) {
				next[from] = append(next[from], e.to)
				last = e.to
			}
		}
	}
	return next
}

// parting finds the parts of a graph in each of which all places come at each other, as Tarjan does.
type parting struct {
	next  [][]int
	count int
	met   []int // the how manieth a place was met as; 0, if it was not
	low   []int // the first one met at which it comes
	open  []int // those met whose part is not known
	part  []int // the place by which a part is named; -1, if it is not known
}

// parts is, of each place, in which part it is.
func parts(next [][]int) []int {
	n := len(next)
	p := &parting{next: next, met: make([]int, n), low: make([]int, n), part: slices.Repeat([]int{-1}, n)}
	for place := range next {
		if p.met[place] == 0 {
			p.visit(place)
		}
	}
	return p.part
}

func (p *parting) visit(place int) {
	p.count++
	p.met[place], p.low[place] = p.count, p.count
	p.open = append(p.open, place)
	for _, to := range p.next[place] {
		if p.met[to] == 0 {
			p.visit(to)
			p.low[place] = min(p.low[place], p.low[to])
		} else if p.part[to] < 0 {
			p.low[place] = min(p.low[place], p.met[to])
		}
	}
	if p.low[place] == p.met[place] {
		p.shut(place)
	}
}

// shut makes a part of those that were met from a place on.
func (p *parting) shut(first int) {
	i := slices.Index(p.open, first)
	for _, place := range p.open[i:] {
		p.part[place] = first
	}
	p.open = p.open[:i]
}

// turns tells whether some edge of these kinds is in a round: whether its ends come at each other.
func turns(out [][]edge, part []int, kinds ...int) bool {
	for from, l := range targets(out, kinds...) {
		if slices.ContainsFunc(l, func(to int) bool { return part[to] == part[from] }) {
			return true
		}
	}
	return false
}

// way is a shortest one from one of some places to another one, with both ends; nothing, if there is none.
func way(next [][]int, from []int, to int) []int {
	const unmet, start = -2, -1
	if len(from) == 0 {
		return nil
	}
	ahead := slices.Repeat([]int{unmet}, len(next))
	for _, place := range from {
		ahead[place] = start
	}
	for line := slices.Clone(from); len(line) > 0 && ahead[to] == unmet; line = line[1:] {
		for _, place := range next[line[0]] {
			if ahead[place] == unmet {
				ahead[place] = line[0]
				line = append(line, place)
			}
		}
	}
	if ahead[to] == unmet {
		return nil
	}
	var l []int
	for place := to; place != start; place = ahead[place] {
		l = append(l, place)
	}
	slices.Reverse(l)
	return l
}

// order is the places, each ahead of those that are next from it, the least one first where several may stand; without those of rounds, and behind them.
func order(next [][]int) []int {
	waits := make([]int, len(next))
	for _, l := range next {
		for _, to := range l {
			waits[to]++
		}
	}
	var ready, done []int
	for place, n := range waits {
		if n == 0 {
			ready = append(ready, place)
		}
	}
	for len(ready) > 0 {
		place := ready[0]
		ready = ready[1:]
		done = append(done, place)
		for _, to := range next[place] {
			waits[to]--
			if waits[to] == 0 {
				i, _ := slices.BinarySearch(ready, to)
				ready = slices.Insert(ready, i, to)
			}
		}
	}
	return done
}
