package valid

import (
	"math"
	"slices"
	"sort"

	"vellum/api"
	"vellum/sets"
)

// tableKey is the Index of a table's own key: a point of it is a row.
const tableKey = -1

// never is behind all stamps.
const never uint64 = math.MaxUint64

// commit is a stamp, and a normal foot of Writes alone: nobody asks what a commit read.
type commit struct {
	stamp uint64
	foot  api.Foot
}

// last is the stamp of the last commit; 0, which is ahead of all stamps, if there is none.
func (l *Log) last() uint64 {
	if len(l.commits) == 0 {
		return 0
	}
	return l.commits[len(l.commits)-1].stamp
}

// behind is the commits behind a stamp.
func (l *Log) behind(from uint64) []commit {
	i := sort.Search(len(l.commits), func(i int) bool { return l.commits[i].stamp > from })
	return l.commits[i:]
}

// at is what the commit of a stamp wrote.
func (l *Log) at(stamp uint64) api.Foot {
	return l.behind(stamp - 1)[0].foot
}

// keep adds a commit behind all others.
func (l *Log) keep(stamp uint64, writes []api.Point) {
	foot, _ := sets.Norm(api.Foot{Writes: writes})
	l.commits = append(l.commits, commit{stamp, foot})
	for _, p := range foot.Writes {
		l.written[p] = append(l.written[p], stamp)
	}
}

// forget takes the first commit's stamp from the points that it wrote.
func (l *Log) forget(c commit) {
	for _, p := range c.foot.Writes {
		if later := l.written[p][1:]; len(later) > 0 {
			l.written[p] = later
		} else {
			delete(l.written, p)
		}
	}
}

// firstOf is the stamp of the first commit behind a stamp that wrote one of these points, or never.
func (l *Log) firstOf(points []api.Point, from uint64) uint64 {
	// Most ask for what came since they began, and mostly that is nothing: then great feet cost nothing here.
	if l.last() <= from {
		return never
	}
	first := never
	for _, p := range points {
		stamps := l.written[p]
		i := sort.Search(len(stamps), func(i int) bool { return stamps[i] > from })
		if i < len(stamps) {
			first = min(first, stamps[i])
		}
	}
	return first
}

// firstIn is the stamp of the first commit behind one stamp and ahead of another one that wrote a point in these spans, or never.
func (l *Log) firstIn(spans []api.Span, from, ahead uint64) uint64 {
	if len(spans) == 0 || l.last() <= from {
		return never
	}
	normal, _ := sets.Norm(api.Foot{Spans: spans})
	covered := func(p api.Point) bool { return covers(normal.Spans, p) }
	for _, c := range l.behind(from) {
		if c.stamp >= ahead {
			break
		}
		if slices.ContainsFunc(c.foot.Writes, covered) {
			return c.stamp
		}
	}
	return never
}

// rows is the points that are rows: their entries in indexes are written along with them.
func rows(l []api.Point) []api.Point {
	return slices.DeleteFunc(slices.Clone(l), func(p api.Point) bool { return p.Index != tableKey })
}
