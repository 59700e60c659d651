package skip_test

import (
	"fmt"
	"maps"
	"runtime"
	"slices"
	"sync"
	"sync/atomic"
	"testing"

	"vellum/api"
	"vellum/skip"
)

// together runs so many workers at one time, which all begin when the last one is there.
func together(workers int, work func(worker int)) {
	var ready, all sync.WaitGroup
	ready.Add(workers)
	for w := range workers {
		all.Go(func() {
			ready.Done()
			ready.Wait()
			work(w)
		})
	}
	all.Wait()
}

// beside runs one thing again and again, while another one runs once.
func beside(again func(turn int), once func()) {
	var stop atomic.Bool
	var other sync.WaitGroup
	other.Go(func() {
		for turn := 0; !stop.Load(); turn++ {
			again(turn)
			if turn%64 == 0 {
				runtime.Gosched()
			}
		}
	})
	once()
	stop.Store(true)
	other.Wait()
}

// timed is a call, what it was told, and at which ticks it began and ended.
type timed struct {
	call     call
	told     string
	from, to int64
}

// serial tells whether calls, some of which are done (a bit each), can stand one behind the other, on what the plain one has then, so that each is told what it was told; none ahead of one that had ended when it began.
func serial(l []timed, done uint, p plain, tried map[string]bool) bool {
	if done == 1<<len(l)-1 {
		return true
	}
	state := fmt.Sprint(done, p.rising())
	if tried[state] {
		return false
	}
	tried[state] = true
	for i, x := range l {
		if done>>i&1 == 1 || slices.ContainsFunc(l, func(y timed) bool { return y.to < x.from && done>>slices.Index(l, y)&1 == 0 }) {
			continue
		}
		then := maps.Clone(p)
		if x.call.onPlain(then) == x.told && serial(l, done|1<<i, then, tried) {
			return true
		}
	}
	return false
}

// One behind the other: what calls of all kinds, side by side, are told is what they are told in some order of them, in which none stands ahead of one that ended ahead of its beginning.
func TestCallsTakeEffectAtOnePoint(t *testing.T) {
	const workers, often = 4, 4
	for turn := range 6000 {
		c := chance{r: uint64(turn), keys: []string{"", "a", "b"}}
		l := skip.New()
		var lists [workers][]timed
		for w := range workers {
			for range often {
				x := c.call(c.below(calls))
				if w < 2 {
					x.kind %= 2
				}
				lists[w] = append(lists[w], timed{call: x})
			}
		}
		var ticks atomic.Int64
		together(workers, func(w int) {
			for i := range lists[w] {
				x := &lists[w][i]
				x.from = ticks.Add(1)
				x.told = x.call.on(l)
				x.to = ticks.Add(1)
			}
		})
		if all := slices.Concat(lists[:]...); !serial(all, 0, plain{}, map[string]bool{}) {
			t.Fatalf("turn %d: no order of these: %+v", turn, all)
		}
	}
}

// ofOneRound tells whether entries are of one time, while somebody puts the number of its round to key behind key: up to some key they have that, behind it the one before.
func ofOneRound(l []api.Entry, size int) bool {
	if len(l) != size {
		return false
	}
	for i, e := range l {
		if e.Value > l[0].Value || e.Value < l[0].Value-1 || i > 0 && e.Value > l[i-1].Value {
			return false
		}
	}
	return true
}

// Sk2: Scan is of one time, both ways, whatever is put meanwhile.
func TestScanIsOfOneTime(t *testing.T) {
	keys := numbered(50)
	l := skip.New()
	for _, key := range keys {
		put(t, l, key, 0, skip.Height(key))
	}
	beside(func(turn int) {
		for _, key := range keys {
			l.Put(key, int64(turn+1), 1)
		}
	}, func() {
		together(3, func(w int) {
			was := int64(0)
			for n := range 3000 {
				back := (n+w)%2 == 0
				s := l.Scan(all(), back, 50+n%2)
				if back {
					slices.Reverse(s)
				}
				if !ofOneRound(s, 50) || s[0].Value < was {
					t.Errorf("Scan = %v behind %d", s, was)
					return
				}
				was = s[0].Value
			}
		})
	})
}

// Sk2: a window of keys wanders, each coming ahead of the last one's going: whoever asks finds 20 or 21 without a hole, in all calls, and on each level those that stand there.
func TestAllIsOfOneTime(t *testing.T) {
	const size = 20
	keys := numbered(1000)
	number := map[string]int{}
	for i, key := range keys {
		number[key] = i
	}
	l := skip.New()
	for i := range size {
		put(t, l, keys[i], int64(i), 1+i%16)
	}
	isWindow := func(l []string) bool {
		from := number[l[0]]
		for i, key := range l {
			// At the end of the keys the window goes over to the first ones.
			if number[key] != from+i && number[key] != from+i+len(keys)-len(l) {
				return false
			}
		}
		return len(l) == size || len(l) == size+1
	}
	beside(func(turn int) {
		n := (turn + size) % len(keys)
		l.Put(keys[n], int64(n), 1+n%16)
		l.Delete(keys[turn%len(keys)])
	}, func() {
		together(3, func(w int) {
			for range 4000 {
				if n := l.Len(); n != size && n != size+1 {
					t.Errorf("Len = %d", n)
				}
				levels := l.Levels()
				if !isWindow(levels[0]) {
					t.Errorf("Levels = %q", levels)
					return
				}
				for i, keys := range levels {
					want := slices.DeleteFunc(slices.Clone(levels[0]), func(key string) bool { return number[key]%16 < i })
					if !slices.Equal(keys, want) {
						t.Errorf("level %d is %q, want %q", i+1, keys, want)
						return
					}
				}
				least, some := l.Seek("", false)
				if !some || int(least.Value) != number[least.Key] || least.Height != 1+number[least.Key]%16 {
					t.Errorf("Seek = %v, %v", least, some)
				}
			}
		})
	})
}

// Sk1: one key moves up and down, always put at its new place ahead of its going from the old one: so one or two are there, and who seeks from either side finds one.
func TestSeekIsOfOneTime(t *testing.T) {
	keys := numbered(64)
	l := skip.New()
	put(t, l, keys[0], 0, 3)
	last := 0
	beside(func(turn int) {
		n := (last + 1 + turn*turn%61) % 64
		l.Put(keys[n], int64(n), 1+turn%5)
		l.Delete(keys[last])
		last = n
	}, func() {
		together(3, func(int) {
			for range 30000 {
				up, some := l.Seek("", false)
				down, other := l.Seek("\xff", true)
				if !some || !other || up.Key != keys[up.Value] || down.Key != keys[down.Value] {
					t.Errorf("Seek = %v, %v and %v, %v", up, some, down, other)
					return
				}
				if s := l.Scan(all(), false, 9); len(s) < 1 || len(s) > 2 {
					t.Errorf("Scan = %v", s)
					return
				}
			}
		})
	})
}

// One behind the other: who put a key finds it, and who deleted it finds it gone, in all that is asked behind it, while others do the same with keys beside it.
func TestManyWorkOnTheirOwn(t *testing.T) {
	keys := numbered(16)
	l := skip.New()
	together(16, func(w int) {
		key := keys[(w*5)%16]
		for turn := range 500 {
			value, height := int64(100*turn+w), 1+(turn+w)%16
			if was, there, err := l.Put(key, value, height); was != 0 || there || err != api.OK {
				t.Errorf("Put(%q) = %d, %v, %d", key, was, there, err)
				return
			}
			own := api.Entry{Key: key, Value: value, Height: height}
			got, there := l.Get(key)
			up, _ := l.Seek(key, false)
			down, _ := l.Seek(key, true)
			if got != value || !there || up != own || down != own || !slices.Contains(l.Scan(all(), turn%2 == 0, 16), own) {
				t.Errorf("%v was put, and told are %d, %v, %v, %v", own, got, there, up, down)
				return
			}
			if levels := l.Levels(); len(levels) < height || !slices.Contains(levels[height-1], key) || len(levels) > height && slices.Contains(levels[height], key) {
				t.Errorf("%v was put, and the levels are %q", own, levels)
				return
			}
			if was, there, err := l.Put(key, value+1, 16); was != value || !there || err != api.OK {
				t.Errorf("Put(%q) again = %d, %v, %d", key, was, there, err)
			}
			if was, there := l.Delete(key); was != value+1 || !there {
				t.Errorf("Delete(%q) = %d, %v", key, was, there)
			}
			if got, there := l.Get(key); got != 0 || there {
				t.Errorf("%q was deleted, and Get = %d, %v", key, got, there)
			}
		}
	})
	if l.Len() != 0 || len(l.Levels()) != 0 {
		t.Errorf("Len = %d, Levels = %q", l.Len(), l.Levels())
	}
}

// Sk1: no put is lost: what many put to one key, each is told once as what it had, but the last.
func TestManyPutOneKey(t *testing.T) {
	const workers, often = 8, 3000
	l := skip.New()
	var told [workers][]int64
	together(workers, func(w int) {
		for n := range often {
			if was, there, _ := l.Put("k", int64(n*workers+w+1), 1+n%16); there {
				told[w] = append(told[w], was)
			}
		}
	})
	all := slices.Concat(told[:]...)
	last, there := l.Get("k")
	all = append(all, last)
	slices.Sort(all)
	if !there || len(all) != workers*often || all[0] != 1 || all[len(all)-1] != workers*often || len(slices.Compact(all)) != workers*often {
		t.Errorf("%d values were told, from %d to %d", len(all), all[0], all[len(all)-1])
	}
}

// R1: who goes far gets through, however many write meanwhile: scans of a long list, and a put at its end.
func TestLongCallsEnd(t *testing.T) {
	l := skip.New()
	keys := numbered(10000)
	for _, key := range keys {
		put(t, l, "k"+key, 1, skip.Height(key))
	}
	front := func(turn int) {
		key := string([]byte{byte(turn)})
		l.Put(key, 2, 1)
		l.Delete(key)
	}
	beside(front, func() {
		beside(front, func() {
			for n := range 40 {
				if s := l.Scan(all(), n%2 == 0, 1<<20); len(s) < 10000 || len(s) > 10002 {
					t.Errorf("Scan tells %d", len(s))
				}
				if levels := l.Levels(); len(levels[0]) < 10000 {
					t.Errorf("Levels tells %d", len(levels[0]))
				}
				if e, _ := l.Seek("\xfe", true); e.Value != 1 && e.Value != 2 {
					t.Errorf("Seek = %v", e)
				}
			}
		})
	})
}

// R1: on a list without upper levels who writes at its end gets through beside those who write at its beginning.
func TestWritesAtTheEndOfAFlatList(t *testing.T) {
	l := skip.New()
	for _, key := range numbered(3000) {
		put(t, l, "k"+key, 1, 1)
	}
	front := func(turn int) {
		l.Put("", int64(turn), 1)
		l.Delete("")
	}
	beside(front, func() {
		beside(front, func() {
			for n := range 300 {
				if was, there, err := l.Put("z", 5, 1+n%16); was != 0 || there || err != api.OK {
					t.Errorf("Put = %d, %v, %d", was, there, err)
				}
				if was, there := l.Get("z"); was != 5 || !there {
					t.Errorf("Get = %d, %v", was, there)
				}
				if was, there := l.Delete("z"); was != 5 || !there {
					t.Errorf("Delete = %d, %v", was, there)
				}
			}
		})
	})
}
