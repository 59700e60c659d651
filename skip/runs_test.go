package skip_test

import (
	"slices"
	"testing"

	"vellum/api"
	"vellum/skip"
)

// Sk1, Sk2: every row of four calls that change something, on three keys and three heights, told as the plain one tells, and shown so at its end.
func TestAllRowsOfCalls(t *testing.T) {
	var kinds []call
	for i, key := range []string{"", "a", "b"} {
		kinds = append(kinds, call{kind: callDelete, key: key})
		for height := 1; height <= 3; height++ {
			kinds = append(kinds, call{kind: callPut, key: key, value: int64(10*i + height), height: height})
		}
	}
	for row := range len(kinds) * len(kinds) * len(kinds) * len(kinds) {
		l, p := skip.New(), plain{}
		for n, left := row, 4; left > 0; n, left = n/len(kinds), left-1 {
			tells(t, l, p, kinds[n%len(kinds)])
		}
		shows(t, l, p)
	}
}

// Sk1, Sk2: long runs of calls of all kinds, on few keys and on many, lists that grow and that shrink, held against the plain one.
func TestRunsAgainstThePlainOne(t *testing.T) {
	mixtures := [][]int{
		{callPut, callDelete, callGet, callSeek, callScan},
		{callPut, callPut, callPut, callDelete, callSeek},
		{callPut, callDelete, callDelete, callGet, callScan, callLen},
		{callPut, callDelete},
	}
	for turn, kinds := range mixtures {
		for _, keys := range [][]string{edges(), numbered(4), numbered(60), numbered(500)} {
			l, p, c := skip.New(), plain{}, chance{r: uint64(turn), keys: keys}
			for i := range 2000 {
				tells(t, l, p, c.call(kinds[c.below(len(kinds))]))
				if i%50 == 0 {
					shows(t, l, p)
				}
			}
			shows(t, l, p)
		}
	}
}

// Sk4: each level has the keys of the one above it, the lowest one all; and no level is empty.
func TestLevelsLieInOneAnother(t *testing.T) {
	l, c := skip.New(), chance{r: 5, keys: numbered(200)}
	for range 3000 {
		c.call(c.below(2)).on(l)
		levels := l.Levels()
		if l.Len() > 0 && len(levels[0]) != l.Len() {
			t.Fatalf("%d keys, and %d on the lowest level", l.Len(), len(levels[0]))
		}
		for i, keys := range levels {
			if len(keys) == 0 || !slices.IsSorted(keys) {
				t.Fatalf("level %d is %q", i+1, keys)
			}
			for _, key := range keys {
				if _, there := slices.BinarySearch(levels[0], key); !there {
					t.Fatalf("%q is on level %d, and not on the lowest", key, i+1)
				}
				if _, there := slices.BinarySearch(levels[max(i-1, 0)], key); !there {
					t.Fatalf("%q is on level %d, and not on the one below", key, i+1)
				}
			}
		}
	}
}

// lowest is a list's entries without their heights.
func lowest(l []api.Entry) []api.Entry {
	for i := range l {
		l[i].Height = 0
	}
	return l
}

// Sk4: lists to which the same is done, on unlike heights, tell the same, but for heights and levels.
func TestHeightsDoNotMatter(t *testing.T) {
	one, two := skip.New(), skip.New()
	c := chance{r: 9, keys: numbered(150)}
	for i := range 6000 {
		x := c.call(c.below(callSeek))
		y := x
		x.height, y.height = 1+i%16, skip.Height(x.key)
		if a, b := x.on(one), y.on(two); a != b {
			t.Fatalf("%+v told %s and %s", x, a, b)
		}
		if i%20 != 0 {
			continue
		}
		s := c.call(callScan)
		if a, b := lowest(one.Scan(s.within, s.back, s.most)), lowest(two.Scan(s.within, s.back, s.most)); !slices.Equal(a, b) {
			t.Fatalf("%+v told %v and %v", s, a, b)
		}
		a, some := one.Seek(s.key, s.back)
		b, other := two.Seek(s.key, s.back)
		if a.Key != b.Key || a.Value != b.Value || some != other || one.Len() != two.Len() {
			t.Fatalf("Seek(%q, %v) = %v and %v, Len = %d and %d", s.key, s.back, a, b, one.Len(), two.Len())
		}
	}
}

// Sk1, Sk2: as many keys as a table may have rows, on their own heights: all calls find their way.
func TestManyKeys(t *testing.T) {
	l := skip.New()
	key := func(n int) string { return string([]byte{byte(n >> 8), byte(n)}) }
	for n := range 1 << 16 {
		k := n * 40503 % (1 << 16)
		put(t, l, key(k), int64(k), skip.Height(key(k)))
	}
	if l.Len() != 1<<16 {
		t.Fatalf("Len = %d", l.Len())
	}
	for n := range 1 << 16 {
		if n%2 == 1 {
			if was, there := l.Delete(key(n)); was != int64(n) || !there {
				t.Fatalf("Delete(%d) = %d, %v", n, was, there)
			}
		}
	}
	for n := range 1 << 16 {
		value, there := l.Get(key(n))
		if there != (n%2 == 0) || there && value != int64(n) {
			t.Fatalf("Get(%d) = %d, %v", n, value, there)
		}
		e, there := l.Seek(key(n), true)
		if e.Value != int64(n-n%2) || !there {
			t.Fatalf("Seek(%d, true) = %v, %v", n, e, there)
		}
		if s := l.Scan(api.Range{Hi: key(n)}, true, 2); n > 4 && (len(s) != 2 || s[0].Value != int64((n-1)/2*2) || s[1].Value != s[0].Value-2) {
			t.Fatalf("Scan up to %d = %v", n, s)
		}
	}
	if s := l.Scan(all(), false, 1<<16); len(s) != 1<<15 || s[100].Value != 200 {
		t.Fatalf("Scan tells %d", len(s))
	}
}

// R3: what Scan and Levels answer is new memory, its spare room too: no two lists share any, nor with what is kept.
func TestAnswersAreNewMemory(t *testing.T) {
	l, p, c := skip.New(), plain{}, chance{r: 3, keys: numbered(40)}
	for range 300 {
		tells(t, l, p, c.call(c.below(2)))
	}
	for _, back := range []bool{false, true} {
		one, two := l.Scan(all(), back, 99), l.Scan(all(), back, 99)
		kept := slices.Clone(two)
		one = one[:cap(one)]
		for i := range one {
			one[i] = api.Entry{Key: "?", Value: 99, Height: 99}
		}
		if !slices.Equal(two, kept) {
			t.Errorf("two scans share memory: %v", two)
		}
	}
	one, two := l.Levels(), l.Levels()
	for i := range one {
		level := one[i][:cap(one[i])]
		for k := range level {
			level[k] = "?"
		}
		for k, other := range one {
			if k > i && slices.Contains(other, "?") {
				t.Errorf("levels %d and %d share memory", i, k)
			}
		}
	}
	for _, level := range two {
		if slices.Contains(level, "?") {
			t.Errorf("two answers share memory: %q", two)
		}
	}
	shows(t, l, p)
}
