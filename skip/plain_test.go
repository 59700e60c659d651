package skip_test

import (
	"fmt"
	"maps"
	"slices"
	"strings"
	"testing"

	"vellum/api"
	"vellum/skip"
)

// plain is a list as one caller sees it: the words of the chapter, one by one.
type plain map[string]api.Entry

func (p plain) put(key string, value int64, height int) (int64, bool, api.Errno) {
	if len(key) > 1025 {
		return 0, false, 3
	}
	if height < 1 || height > 16 {
		return 0, false, 120
	}
	was, there := p[key]
	if there {
		height = was.Height
	}
	p[key] = api.Entry{Key: key, Value: value, Height: height}
	return was.Value, there, 0
}

func (p plain) delete(key string) (int64, bool) {
	was, there := p[key]
	delete(p, key)
	return was.Value, there
}

func (p plain) get(key string) (int64, bool) {
	is, there := p[key]
	return is.Value, there
}

// rising is all entries by their keys.
func (p plain) rising() []api.Entry {
	return slices.SortedFunc(maps.Values(p), func(a, b api.Entry) int { return strings.Compare(a.Key, b.Key) })
}

func (p plain) seek(key string, back bool) (api.Entry, bool) {
	var last api.Entry
	some := false
	for _, e := range p.rising() {
		if !back && e.Key >= key {
			return e, true
		}
		if back && e.Key <= key {
			last, some = e, true
		}
	}
	return last, some
}

func (p plain) scan(r api.Range, back bool, most int) []api.Entry {
	var l []api.Entry
	for _, e := range p.rising() {
		if e.Key >= r.Lo && (r.Open || e.Key < r.Hi) {
			l = append(l, e)
		}
	}
	if back {
		slices.Reverse(l)
	}
	return l[:max(0, min(most, len(l)))]
}

func (p plain) levels() [][]string {
	var all [][]string
	for height := 1; height <= 16; height++ {
		var keys []string
		for _, e := range p.rising() {
			if e.Height >= height {
				keys = append(keys, e.Key)
			}
		}
		if keys == nil {
			break
		}
		all = append(all, keys)
	}
	return all
}

// The calls of a list.
const (
	callPut = iota
	callDelete
	callGet
	callSeek
	callScan
	callLen
	callLevels
	calls
)

// call is a call of a list, with all that it may be given.
type call struct {
	kind   int
	key    string
	value  int64
	height int
	back   bool
	within api.Range
	most   int
}

// shown is entries as a text.
func shown(l ...api.Entry) string {
	var b strings.Builder
	for _, e := range l {
		fmt.Fprintf(&b, "%q %d on %d, ", e.Key, e.Value, e.Height)
	}
	return b.String()
}

// on is what a list tells, as a text.
func (c call) on(l *skip.List) string {
	switch c.kind {
	case callPut:
		return fmt.Sprint(l.Put(c.key, c.value, c.height))
	case callDelete:
		return fmt.Sprint(l.Delete(c.key))
	case callGet:
		return fmt.Sprint(l.Get(c.key))
	case callSeek:
		e, there := l.Seek(c.key, c.back)
		return fmt.Sprint(shown(e), there)
	case callScan:
		return shown(l.Scan(c.within, c.back, c.most)...)
	case callLen:
		return fmt.Sprint(l.Len())
	}
	return fmt.Sprintf("%q", l.Levels())
}

// onPlain is what the plain one tells.
func (c call) onPlain(p plain) string {
	switch c.kind {
	case callPut:
		return fmt.Sprint(p.put(c.key, c.value, c.height))
	case callDelete:
		return fmt.Sprint(p.delete(c.key))
	case callGet:
		return fmt.Sprint(p.get(c.key))
	case callSeek:
		e, there := p.seek(c.key, c.back)
		return fmt.Sprint(shown(e), there)
	case callScan:
		return shown(p.scan(c.within, c.back, c.most)...)
	case callLen:
		return fmt.Sprint(len(p))
	}
	return fmt.Sprintf("%q", p.levels())
}

// tells does a call on both, which must be told the same.
func tells(t *testing.T, l *skip.List, p plain, c call) {
	t.Helper()
	if got, want := c.on(l), c.onPlain(p); got != want {
		t.Fatalf("%+v told %s, want %s", c, got, want)
	}
}

func all() api.Range { return api.Range{Open: true} }

// shows holds all that a list tells of itself against the plain one.
func shows(t *testing.T, l *skip.List, p plain) {
	t.Helper()
	tells(t, l, p, call{kind: callLen})
	tells(t, l, p, call{kind: callLevels})
	for _, back := range []bool{false, true} {
		tells(t, l, p, call{kind: callScan, within: all(), back: back, most: len(p) + 1})
	}
}

// next is the next one of a row of numbers that looks like chance.
func next(r uint64) uint64 { return r*6364136223846793005 + 1442695040888963407 }

// chance makes calls that look like chance.
type chance struct {
	r    uint64
	keys []string
}

func (c *chance) below(n int) int {
	c.r = next(c.r)
	return int(c.r >> 33 % uint64(n))
}

func (c *chance) key() string { return c.keys[c.below(len(c.keys))] }

func (c *chance) call(kind int) call {
	return call{
		kind: kind, key: c.key(), value: int64(c.below(1000)) - 500, height: 1 + c.below(16)*c.below(16)/15,
		back: c.below(2) == 0, within: api.Range{Lo: c.key(), Hi: c.key(), Open: c.below(4) == 0}, most: c.below(len(c.keys)+3) - 1,
	}
}
