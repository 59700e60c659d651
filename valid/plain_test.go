package valid_test

import (
	"slices"
	"strings"

	"vellum/api"
	"vellum/code"
)

// The words of the chapter, one by one, without maps and without searches.

// plainLog is commits, with what they wrote as it was handed in.
type plainLog struct {
	stamps []uint64
	writes [][]api.Point
}

func plainCheck(f api.Foot) api.Errno {
	if len(f.Points)+len(f.Spans)+len(f.Writes) > 65536 {
		return api.ErrFull
	}
	for _, p := range slices.Concat(f.Points, f.Writes) {
		if p.Table < 0 || p.Index < -1 {
			return api.ErrArg
		}
	}
	for _, s := range f.Spans {
		if s.Table < 0 || s.Index < -1 {
			return api.ErrArg
		}
	}
	return api.OK
}

func (l *plainLog) note(stamp uint64, f api.Foot) api.Errno {
	if err := plainCheck(f); err != api.OK {
		return err
	}
	if stamp == 0 || stamp > 1<<62 {
		return api.ErrArg
	}
	for _, s := range l.stamps {
		if s >= stamp {
			return api.ErrOlder
		}
	}
	if len(l.stamps) == 4096 {
		return api.ErrFull
	}
	l.stamps = append(l.stamps, stamp)
	l.writes = append(l.writes, slices.Clone(f.Writes))
	return api.OK
}

func (l *plainLog) trim(floor uint64) int {
	var left plainLog
	for i, s := range l.stamps {
		if s > floor {
			left.stamps = append(left.stamps, s)
			left.writes = append(left.writes, l.writes[i])
		}
	}
	n := len(l.stamps) - len(left.stamps)
	*l = left
	return n
}

// stands tells whether a point stands ahead of another one.
func stands(a, b api.Point) bool {
	if a.Table != b.Table {
		return a.Table < b.Table
	}
	if a.Index != b.Index {
		return a.Index < b.Index
	}
	return strings.Compare(a.Key, b.Key) < 0
}

func plainReads(f api.Foot, p api.Point) bool {
	for _, q := range f.Points {
		if q == p {
			return true
		}
	}
	for _, s := range f.Spans {
		if s.Table == p.Table && s.Index == p.Index && code.Has(s.Range, p.Key) {
			return true
		}
	}
	return false
}

// first is the first commit behind a stamp that wrote a point that is meant, and the first one of those.
func (l *plainLog) first(from uint64, meant func(api.Point) bool) (api.Clash, bool) {
	for i, s := range l.stamps {
		if s <= from {
			continue
		}
		var met api.Clash
		for _, p := range l.writes[i] {
			if meant(p) && (met.Stamp == 0 || stands(p, met.Point)) {
				met = api.Clash{Stamp: s, Point: p}
			}
		}
		if met.Stamp != 0 {
			return met, true
		}
	}
	return api.Clash{}, false
}

func (l *plainLog) read(f api.Foot, from uint64) (api.Clash, bool) {
	if plainCheck(f) != api.OK {
		return api.Clash{}, false
	}
	return l.first(from, func(p api.Point) bool { return plainReads(f, p) })
}

func (l *plainLog) wrote(f api.Foot, from uint64) (api.Clash, bool) {
	if plainCheck(f) != api.OK {
		return api.Clash{}, false
	}
	return l.first(from, func(p api.Point) bool { return p.Index == -1 && slices.Contains(f.Writes, p) })
}

func (l *plainLog) try(a api.Attempt) (api.Clash, api.Errno) {
	if err := plainCheck(a.Foot); err != api.OK {
		return api.Clash{}, err
	}
	switch a.Level {
	case api.LevelCommitted, api.LevelSnapshot, api.LevelSerial:
	default:
		return api.Clash{}, api.ErrLevel
	}
	if a.Level == api.LevelCommitted {
		return api.Clash{}, api.OK
	}
	if c, some := l.wrote(a.Foot, a.From); some {
		return c, api.ErrNewer
	}
	if a.Level == api.LevelSnapshot {
		return api.Clash{}, api.OK
	}
	if c, some := l.read(a.Foot, a.From); some {
		return c, api.ErrSerial
	}
	return api.Clash{}, api.OK
}

func plainSchedule(last uint64, l []api.Attempt) ([]api.Fate, api.Errno) {
	if last > 1<<62 {
		return nil, api.ErrArg
	}
	if len(l) > 4096 {
		return nil, api.ErrFull
	}
	var log plainLog
	var fates []api.Fate
	for _, a := range l {
		var f api.Fate
		f.Clash, f.Err = log.try(a)
		if f.Err == api.OK && last == 1<<62 {
			f.Err = api.ErrEnd
		}
		if f.Err == api.OK {
			last++
			log.note(last, api.Foot{Writes: a.Foot.Writes})
			f.Stamp = last
		}
		fates = append(fates, f)
	}
	return fates, api.OK
}
