package valid_test

import (
	"slices"
	"testing"

	"vellum/api"
	"vellum/valid"
)

// Vd1 to Vd3: logs that grow and are trimmed, held step by step against the chapter's words.
func TestRandomLogs(t *testing.T) {
	for seed := range uint64(300) {
		w := newWorld(seed)
		l, plain := valid.New(), &plainLog{}
		last := uint64(0)
		for range 60 {
			randomStep(t, w, l, plain, &last)
			if !slices.Equal(l.Stamps(), plain.stamps) {
				t.Fatalf("seed %d: the stamps %v, want %v", seed, l.Stamps(), plain.stamps)
			}
		}
	}
}

func randomStep(t *testing.T, w world, l *valid.Log, plain *plainLog, last *uint64) {
	t.Helper()
	a := w.attempt(*last)
	switch w.IntN(5) {
	case 0, 1:
		stamp := *last + w.Uint64N(4)
		err := plain.note(stamp, a.Foot)
		wants(t, "Note of "+shown(a.Foot), l.Note(stamp, a.Foot), err)
		if err == api.OK {
			*last = stamp
		}
	case 2:
		if w.IntN(4) == 0 {
			wants(t, "Trim", l.Trim(a.From), plain.trim(a.From))
		}
	}
	holds(t, l, plain, a)
}

// holds holds what a log tells of an attempt against the chapter's words.
func holds(t *testing.T, l *valid.Log, plain *plainLog, a api.Attempt) {
	t.Helper()
	got, some := l.Read(a.Foot, a.From)
	want, wantSome := plain.read(a.Foot, a.From)
	if got != want || some != wantSome {
		t.Fatalf("Read of %s from %d: %+v, %v, want %+v", shown(a.Foot), a.From, got, some, want)
	}
	got, some = l.Wrote(a.Foot, a.From)
	want, wantSome = plain.wrote(a.Foot, a.From)
	if got != want || some != wantSome {
		t.Fatalf("Wrote of %s from %d: %+v, %v, want %+v", shown(a.Foot), a.From, got, some, want)
	}
	got, err := l.Try(a)
	want, wantErr := plain.try(a)
	if got != want || err != wantErr {
		t.Fatalf("Try of %s from %d at level %d: %+v, %d, want %+v, %d", shown(a.Foot), a.From, a.Level, got, err, want, wantErr)
	}
}

// schedule is random attempts, as they may come behind a stamp.
func (w world) schedule(last uint64, most int) []api.Attempt {
	l := make([]api.Attempt, w.IntN(most+1))
	for i := range l {
		l[i] = w.attempt(last + uint64(i/2))
	}
	return l
}

// Vd4: random schedules, some of which reach the last stamp, held against the chapter's words.
func TestRandomSchedules(t *testing.T) {
	for seed := range uint64(600) {
		w := newWorld(seed)
		last := []uint64{0, 0, 1, 1000, 1<<62 - 9, 1 << 62}[w.IntN(6)]
		l := w.schedule(last, 40)
		want, _ := plainSchedule(last, l)
		wantsFates(t, "random attempts", last, l, want...)
	}
}

// kept is an attempt that committed, with its stamp.
type kept struct {
	api.Attempt
	stamp uint64
}

func committedOf(l []api.Attempt, fates []api.Fate) []kept {
	var those []kept
	for i, f := range fates {
		if f.Err == api.OK {
			those = append(those, kept{l[i], f.Stamp})
		}
	}
	return those
}

// Vd5: between the From and the stamp of a serializable one that committed nobody wrote what it reads.
// Vd6: of two, snapshot or serial, that wrote one row, the later one saw the other one.
func TestSerialAndNoLostUpdate(t *testing.T) {
	pairs := 0
	for seed := range uint64(600) {
		l := newWorld(seed).schedule(0, 40)
		fates, _ := valid.Schedule(0, l)
		those := committedOf(l, fates)
		for i, later := range those {
			for _, earlier := range those[:i] {
				if earlier.stamp <= later.From {
					continue
				}
				for _, p := range earlier.Foot.Writes {
					if later.Level == serial {
						wants(t, "a serial one reads what was written behind its From", plainReads(later.Foot, p), false)
					}
					if later.Level != committed && p.Index == -1 {
						wants(t, "an update is lost", slices.Contains(later.Foot.Writes, p), false)
					}
				}
				pairs++
			}
		}
	}
	if pairs < 1000 {
		t.Fatalf("only %d pairs were side by side", pairs)
	}
}

// Vd5: replayed one behind the other by their stamps, serializable ones read of each row who wrote it last just as they did at their From.
func TestSerialReadsTheSame(t *testing.T) {
	for seed := range uint64(300) {
		l := newWorld(seed).schedule(0, 40)
		for i := range l {
			l[i].Level = serial
		}
		fates, _ := valid.Schedule(0, l)
		those := committedOf(l, fates)
		for _, k := range those {
			// A From may lie behind the stamps that were given: then it saw all.
			saw := min(k.From, k.stamp-1)
			for _, p := range k.Foot.Points {
				wants(t, "who wrote last", lastWriter(those, p, k.stamp-1), lastWriter(those, p, saw))
			}
		}
	}
}

// lastWriter is the stamp of the last one up to a stamp that wrote a point.
func lastWriter(l []kept, p api.Point, upTo uint64) uint64 {
	last := uint64(0)
	for _, k := range l {
		if k.stamp <= upTo && slices.Contains(k.Foot.Writes, p) {
			last = k.stamp
		}
	}
	return last
}

// Vd7: what Trim takes away at a floor changes nothing for who has From at least floor.
func TestTrimChangesNothingAboveTheFloor(t *testing.T) {
	for seed := range uint64(300) {
		w := newWorld(seed)
		whole, trimmed := valid.New(), valid.New()
		for stamp := range uint64(20) {
			f := w.foot()
			noted(t, whole, stamp+1, f)
			noted(t, trimmed, stamp+1, f)
		}
		floor := w.Uint64N(22)
		wants(t, "Trim", trimmed.Trim(floor), int(min(floor, 20)))
		for range 20 {
			a := w.attempt(20)
			a.From = floor + w.Uint64N(4)
			want, err := whole.Try(a)
			wantsTry(t, shown(a.Foot), trimmed, a, want, err)
			met, some := whole.Read(a.Foot, a.From)
			got, gotSome := trimmed.Read(a.Foot, a.From)
			wants(t, "Read", got, met)
			wants(t, "Read", gotSome, some)
			met, some = whole.Wrote(a.Foot, a.From)
			got, gotSome = trimmed.Wrote(a.Foot, a.From)
			wants(t, "Wrote", got, met)
			wants(t, "Wrote", gotSome, some)
		}
	}
}

// randomLog has commits at the stamps from 1 to 20.
func randomLog(t *testing.T, w world) *valid.Log {
	t.Helper()
	l := valid.New()
	for stamp := range uint64(20) {
		noted(t, l, stamp+1, w.foot())
	}
	return l
}

// Vd8: a foot that reads and writes nothing may always commit.
func TestNothingMayAlwaysCommit(t *testing.T) {
	for seed := range uint64(50) {
		l := randomLog(t, newWorld(seed))
		for from := range uint64(25) {
			for level := committed; level <= serial; level++ {
				wantsTry(t, "nothing", l, api.Attempt{From: from, Level: level}, api.Clash{}, api.OK)
				wantsTry(t, "empty lists", l, api.Attempt{From: from, Foot: sized(0, 0, 0), Level: level}, api.Clash{}, api.OK)
			}
		}
	}
}

// Vd8: who reads more, or saw less, commits at most where the other one does; so does who is of a higher level, and who writes more.
func TestMoreCommitsLess(t *testing.T) {
	for seed := range uint64(400) {
		w := newWorld(seed)
		l := randomLog(t, w)
		for range 10 {
			a := w.attempt(20)
			if _, err := l.Try(a); err == api.OK || err == api.ErrLevel || err == api.ErrArg {
				continue
			}
			more, less, higher, wider := a, a, a, a
			f := w.foot()
			more.Foot = api.Foot{Points: slices.Concat(f.Points, a.Foot.Points), Spans: slices.Concat(f.Spans, a.Foot.Spans), Writes: a.Foot.Writes}
			less.From -= min(less.From, w.Uint64N(4))
			higher.Level = serial
			wider.Foot.Writes = slices.Concat(f.Writes, a.Foot.Writes)
			for _, b := range []api.Attempt{more, less, higher, wider} {
				if _, err := l.Try(b); err == api.OK {
					t.Fatalf("%s from %d at level %d commits, but %s from %d at level %d does not", shown(b.Foot), b.From, b.Level, shown(a.Foot), a.From, a.Level)
				}
			}
		}
	}
}
