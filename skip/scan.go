package skip

import "vellum/api"

func (v view) scan(r api.Range, back bool, most int) []api.Entry {
	s := scan{view: v, within: r, most: most}
	if back {
		s.fall(api.MaxHeight-1, v.list.head, nil)
	} else {
		s.rise()
	}
	return s.told
}

// scan goes over the entries of a range.
type scan struct {
	view
	within api.Range
	most   int
	told   []api.Entry
}

// ends tells whether a node stands behind the range.
func (s *scan) ends(x *node) bool {
	return !s.within.Open && x.key >= s.within.Hi
}

// tell tells an entry: whether more are asked for.
func (s *scan) tell(x *node) bool {
	s.told = append(s.told, x.entry())
	return len(s.told) < s.most
}

func (s *scan) rise() {
	x := s.seek(s.within.Lo, false)
	for x != nil && !s.ends(x) && s.tell(x) {
		x = s.behind(x, 0)
	}
}

// fall tells the entries from a node on, that one too, up to another one without it, falling: whether more are asked for. As nothing leads back, it notes the nodes that stand there on a level, and goes from the last of them on down one level; so it goes over those stretches alone in which it tells something.
func (s *scan) fall(level int, from, to *node) bool {
	var stretch []*node
	for x := from; x != nil && x != to && (x == from || !s.ends(x)); x = s.behind(x, level) {
		stretch = append(stretch, x)
	}
	for i := len(stretch) - 1; i >= 0; i-- {
		x := stretch[i]
		if level == 0 && (x == s.list.head || x.key < s.within.Lo || !s.tell(x)) {
			return false
		}
		if level > 0 && !s.fall(level-1, x, to) {
			return false
		}
		to = x
	}
	return true
}
