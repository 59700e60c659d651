package valid_test

import (
	"fmt"
	"runtime"
	"sync"
	"testing"

	"vellum/api"
	"vellum/valid"
)

// nth is a key of a number, in order.
func nth(n int) string { return fmt.Sprintf("%08d", n) }

// full is a log with MaxLog commits at the stamps 1, 2 and so on, each of which wrote so many rows, its own alone.
func full(t *testing.T, each int) *valid.Log {
	t.Helper()
	l := valid.New()
	for i := range 4096 {
		var f api.Foot
		for j := range each {
			f.Writes = append(f.Writes, row(nth(i*each+j)))
		}
		noted(t, l, uint64(i+1), f)
	}
	return l
}

// Vd2: a foot as great as may be, of points or of ranges, against a full log: only the last commit wrote what it reads.
func TestGreatFeet(t *testing.T) {
	l := full(t, 2)
	var points, spans, writes api.Foot
	for i := range 1<<16 - 1 {
		key := nth(i/8) + "+" + nth(i)
		points.Points = append(points.Points, row(key))
		spans.Spans = append(spans.Spans, span(0, -1, upTo(key, key+"\x00")))
		writes.Writes = append(writes.Writes, row(key))
	}
	for range 20 {
		wantsRead(t, "points that nobody wrote", l, points, 0, api.Clash{})
		wantsRead(t, "ranges that nobody wrote in", l, spans, 0, api.Clash{})
		wantsWrote(t, "rows that nobody wrote", l, writes, 0, api.Clash{})
	}
	last := row(nth(4095*2 + 1))
	points.Points = append(points.Points, last)
	spans.Spans = append(spans.Spans, span(0, -1, upTo(last.Key, last.Key+"\x00")))
	writes.Writes = append(writes.Writes, last)
	wantsRead(t, "points", l, points, 0, clash(4096, last))
	wantsRead(t, "ranges", l, spans, 0, clash(4096, last))
	wantsWrote(t, "rows", l, writes, 0, clash(4096, last))
	wantsRead(t, "points", l, points, 4096, api.Clash{})
}

// Vd4: as many attempts as may be, none of which saw another one, each with some points, a range and writes of its own.
func TestGreatSchedule(t *testing.T) {
	l := make([]api.Attempt, 4096)
	for i := range l {
		f := api.Foot{Spans: []api.Span{span(1, -1, onwards(nth(i*8)))}}
		for j := range 8 {
			f.Points = append(f.Points, row(nth(i*8+j)))
			f.Writes = append(f.Writes, row(nth(i*8+j)))
		}
		l[i] = api.Attempt{Foot: f, Level: serial}
	}
	l[4095].Foot.Points = append(l[4095].Foot.Points, row(nth(9)))
	fates, err := valid.Schedule(0, l)
	wants(t, "Schedule", err, api.OK)
	for i, f := range fates[:4095] {
		wants(t, "a fate", f, stamped(uint64(i+1)))
	}
	wants(t, "the last one's fate", fates[4095], lost(api.ErrSerial, 2, row(nth(9))))
}

// inUse is how many bytes are held.
func inUse() int64 {
	runtime.GC()
	var m runtime.MemStats
	runtime.ReadMemStats(&m)
	return int64(m.HeapAlloc)
}

// Vd1: a log goes on as long as it is trimmed, with one row that each commit writes; and keeps what is not trimmed.
func TestLongLog(t *testing.T) {
	l := valid.New()
	before := inUse()
	for stamp := uint64(1); stamp <= 100000; stamp++ {
		noted(t, l, stamp, api.Foot{Writes: []api.Point{row("hot"), row(nth(int(stamp)))}})
		if stamp > 10 {
			wants(t, "Trim", l.Trim(stamp-10), 1)
		}
	}
	if grown := inUse() - before; grown > 1<<20 {
		t.Fatalf("the log keeps %d bytes of what was trimmed", grown)
	}
	wants(t, "how many", len(l.Stamps()), 10)
	wantsRead(t, "the hot row", l, api.Foot{Points: []api.Point{row("hot")}}, 0, clash(99991, row("hot")))
	wantsRead(t, "the hot row, from 99995", l, api.Foot{Points: []api.Point{row("hot")}}, 99995, clash(99996, row("hot")))
	wantsRead(t, "a row that is trimmed", l, api.Foot{Points: []api.Point{row(nth(99990))}}, 0, api.Clash{})
	wantsRead(t, "a row that is kept", l, api.Foot{Points: []api.Point{row(nth(99992))}}, 0, clash(99992, row(nth(99992))))
}

// Vd3: asking leaves the log as it is, so many may ask at one time.
func TestAskingSideBySide(t *testing.T) {
	l := full(t, 4)
	var all sync.WaitGroup
	for g := range 8 {
		all.Add(1)
		go func() {
			defer all.Done()
			for i := g; i < 4096; i += 8 {
				want := clash(uint64(i+1), row(nth(4*i+1)))
				a := api.Attempt{From: uint64(i), Foot: api.Foot{Spans: over(upTo(nth(4*i+1), nth(4*i+9))).Spans}, Level: serial}
				if got, err := l.Try(a); got != want || err != api.ErrSerial {
					t.Errorf("Try of %d: %+v, %d", i, got, err)
				}
				a.Foot = api.Foot{Writes: []api.Point{want.Point}}
				if got, err := l.Try(a); got != want || err != api.ErrNewer {
					t.Errorf("Try of %d: %+v, %d", i, got, err)
				}
				if n := len(l.Stamps()); n != 4096 {
					t.Errorf("%d stamps", n)
				}
			}
		}()
	}
	all.Wait()
}
