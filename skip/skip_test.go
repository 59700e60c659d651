package skip_test

import (
	"math"
	"slices"
	"strings"
	"testing"

	"vellum/api"
	"vellum/skip"
)

func put(t *testing.T, l *skip.List, key string, value int64, height int) {
	t.Helper()
	if was, there, err := l.Put(key, value, height); was != 0 || there || err != api.OK {
		t.Fatalf("Put(%q) = %d, %v, %d, want a new one", key, was, there, err)
	}
}

// levelsAre holds Levels against the keys of each level, with blanks between.
func levelsAre(t *testing.T, l *skip.List, want ...string) {
	t.Helper()
	var got []string
	for _, keys := range l.Levels() {
		got = append(got, strings.Join(keys, " "))
	}
	if !slices.Equal(got, want) {
		t.Errorf("Levels = %q, want %q", got, want)
	}
}

// Sk1, Sk2: the chapter's examples.
func TestExamples(t *testing.T) {
	l := skip.New()
	put(t, l, "b", 1, 2)
	put(t, l, "a", 5, 1)
	put(t, l, "c", 7, 3)
	levelsAre(t, l, "a b c", "b c", "c")
	if was, there, err := l.Put("b", 2, 9); was != 1 || !there || err != api.OK {
		t.Errorf("Put(b) again = %d, %v, %d", was, there, err)
	}
	levelsAre(t, l, "a b c", "b c", "c")
	if e, there := l.Seek("bb", false); e != (api.Entry{Key: "c", Value: 7, Height: 3}) || !there {
		t.Errorf("Seek(bb, false) = %v, %v", e, there)
	}
	if e, there := l.Seek("bb", true); e != (api.Entry{Key: "b", Value: 2, Height: 2}) || !there {
		t.Errorf("Seek(bb, true) = %v, %v", e, there)
	}
	if s := l.Scan(api.Range{Lo: "a", Hi: "c"}, true, 1); !slices.Equal(s, []api.Entry{{Key: "b", Value: 2, Height: 2}}) {
		t.Errorf("Scan = %v", s)
	}
	if was, there := l.Delete("c"); was != 7 || !there {
		t.Errorf("Delete(c) = %d, %v", was, there)
	}
	levelsAre(t, l, "a b", "b")
	if h := skip.Height(""); h != 1 {
		t.Errorf("Height of the empty key = %d", h)
	}
}

// Sk1, Sk2: an empty list has nothing, whatever is asked, also when all that was there has gone.
func TestEmpty(t *testing.T) {
	l := skip.New()
	for range 2 {
		for _, key := range []string{"", "a", "\xff", strings.Repeat("k", 5000)} {
			if was, there := l.Delete(key); was != 0 || there {
				t.Errorf("Delete(%.9q) = %d, %v", key, was, there)
			}
			if value, there := l.Get(key); value != 0 || there {
				t.Errorf("Get(%.9q) = %d, %v", key, value, there)
			}
			for _, back := range []bool{false, true} {
				if e, there := l.Seek(key, back); e != (api.Entry{}) || there {
					t.Errorf("Seek(%.9q, %v) = %v, %v", key, back, e, there)
				}
				if s := l.Scan(api.Range{Lo: key, Open: true}, back, 9); len(s) != 0 {
					t.Errorf("Scan = %v", s)
				}
			}
		}
		if l.Len() != 0 || len(l.Levels()) != 0 {
			t.Errorf("Len = %d, Levels = %q", l.Len(), l.Levels())
		}
		for i, key := range []string{"b", "", "a"} {
			put(t, l, key, int64(i), 16-i)
		}
		for i, key := range []string{"b", "", "a"} {
			if was, there := l.Delete(key); was != int64(i) || !there {
				t.Errorf("Delete(%q) = %d, %v", key, was, there)
			}
		}
	}
}

// Sk2: of a List that New did not give: ErrArg, ahead of all other errors, 0, false, nothing, however often.
func TestNotGiven(t *testing.T) {
	for _, l := range []*skip.List{nil, {}, new(skip.List)} {
		for _, key := range []string{"", "a", strings.Repeat("k", 1026)} {
			for _, height := range []int{1, 0, 17} {
				if was, there, err := l.Put(key, 1, height); was != 0 || there || err != api.ErrArg {
					t.Errorf("Put = %d, %v, %d, want ErrArg", was, there, err)
				}
			}
			was, there := l.Delete(key)
			value, has := l.Get(key)
			if was != 0 || there || value != 0 || has {
				t.Errorf("Delete = %d, %v, Get = %d, %v", was, there, value, has)
			}
			for _, back := range []bool{false, true} {
				if e, there := l.Seek(key, back); e != (api.Entry{}) || there || len(l.Scan(all(), back, 9)) != 0 {
					t.Errorf("Seek = %v, %v, Scan = %v", e, there, l.Scan(all(), back, 9))
				}
			}
			if l.Len() != 0 || len(l.Levels()) != 0 {
				t.Errorf("Len = %d, Levels = %q", l.Len(), l.Levels())
			}
		}
	}
}

// Sk1, R2: a key of 1025 bytes is let, one of 1026 is not, and that is told ahead of a height that may not be; what is refused changes nothing.
func TestPutRefuses(t *testing.T) {
	l, p := skip.New(), plain{}
	long, longer := strings.Repeat("k", 1025), strings.Repeat("k", 1026)
	tells(t, l, p, call{kind: callPut, key: "m", value: 3, height: 4})
	for _, height := range []int{math.MinInt, -16, -1, 0, 1, 2, 15, 16, 17, 32, 1 << 32, 1<<32 + 1, math.MaxInt} {
		for _, key := range []string{"m", "a", "", long, longer, longer + longer, strings.Repeat("\xff", 1026)} {
			want := api.OK
			if height < 1 || height > 16 {
				want = api.ErrHeight
			}
			if len(key) > 1025 {
				want = api.ErrLong
			}
			was, there, err := l.Put(key, 7, height)
			if err != want || want != api.OK && (was != 0 || there) {
				t.Errorf("Put of %d bytes on %d levels = %d, %v, %d, want error %d", len(key), height, was, there, err, want)
			}
			p.put(key, 7, height)
			shows(t, l, p)
		}
	}
	if l.Len() != 4 {
		t.Errorf("Len = %d, want 4", l.Len())
	}
}

// Sk1: keys and ranges that are longer than any key are asked for all the same.
func TestLongKeysAreAsked(t *testing.T) {
	l, p := skip.New(), plain{}
	long := strings.Repeat("k", 1025)
	for i, key := range []string{long, long[:1024], "a", "z"} {
		tells(t, l, p, call{kind: callPut, key: key, value: int64(i), height: 1 + i*5})
	}
	for _, key := range []string{long, long + "a", long + "\x00", strings.Repeat("k", 100000), strings.Repeat("z", 2000)} {
		for kind := callDelete; kind < calls; kind++ {
			for _, back := range []bool{false, true} {
				if kind != callDelete || len(key) > 1025 {
					tells(t, l, p, call{kind: kind, key: key, back: back, within: api.Range{Lo: "b", Hi: key}, most: 9})
					tells(t, l, p, call{kind: kind, key: key, back: back, within: api.Range{Lo: key, Open: true}, most: 9})
				}
			}
		}
	}
	shows(t, l, p)
}

// Sk1: each height is kept: a key stands on so many levels, no matter what stands beside it, and stays there whatever is put later; a key that was deleted and is put again stands on the new ones.
func TestEachHeight(t *testing.T) {
	for height := 1; height <= 16; height++ {
		for other := 1; other <= 16; other++ {
			l, p := skip.New(), plain{}
			for _, c := range []call{
				{kind: callPut, key: "m", value: 1, height: height},
				{kind: callPut, key: "l", value: 2, height: other},
				{kind: callPut, key: "n", value: 3, height: other},
				{kind: callPut, key: "m", value: 4, height: other},
				{kind: callGet, key: "m"},
				{kind: callDelete, key: "l"},
				{kind: callDelete, key: "m"},
				{kind: callPut, key: "m", value: 5, height: other},
				{kind: callSeek, key: "m"},
				{kind: callDelete, key: "n"},
			} {
				tells(t, l, p, c)
				shows(t, l, p)
			}
		}
	}
}

// Sk1: every value is kept, 0 and the ends among them; a 0 that is there is told apart from nothing.
func TestValues(t *testing.T) {
	l := skip.New()
	was, there := int64(0), false
	for i, value := range []int64{0, 1, -1, math.MinInt64, math.MaxInt64, 0, 0} {
		if got, had, err := l.Put("k", value, 1+i); got != was || had != there || err != api.OK {
			t.Errorf("Put = %d, %v, %d, want %d, %v", got, had, err, was, there)
		}
		was, there = value, true
		if got, has := l.Get("k"); got != value || !has || l.Len() != 1 {
			t.Errorf("Get = %d, %v, want %d", got, has, value)
		}
		if e, some := l.Seek("", false); e != (api.Entry{Key: "k", Value: value, Height: 1}) || !some {
			t.Errorf("Seek = %v, %v", e, some)
		}
	}
	if got, had := l.Delete("k"); got != 0 || !had {
		t.Errorf("Delete = %d, %v, want 0, true", got, had)
	}
	if got, had := l.Delete("k"); got != 0 || had {
		t.Errorf("Delete again = %d, %v", got, had)
	}
}

// edges is keys that are hard to put in order: the empty one, beginnings of one another, bytes 0 and 255, and bytes above 127 that are no texts.
func edges() []string {
	return []string{"", "\x00", "\x00\x00", "\x00\xff", "\x01", "a", "a\x00", "a\x00\x00", "a\x01", "a\xff", "aa", "b", "\x7f", "\x80", "\xc3\xa9", "\xfe", "\xff", "\xff\x00", "\xff\xff"}
}

// Sk2: keys stand by their bytes; Seek finds each one's neighbours, from keys that are there and that are not.
func TestOrder(t *testing.T) {
	keys := edges()
	for part := range 3 {
		l, p := skip.New(), plain{}
		for i := range keys {
			if k := i * 7 % len(keys); part == 0 || k%2 == part-1 {
				tells(t, l, p, call{kind: callPut, key: keys[k], value: int64(k), height: 1 + k*5%6})
			}
		}
		shows(t, l, p)
		for _, key := range keys {
			tells(t, l, p, call{kind: callGet, key: key})
			tells(t, l, p, call{kind: callSeek, key: key})
			tells(t, l, p, call{kind: callSeek, key: key, back: true})
		}
	}
}

// Sk2: each range between two edges, open and not, both ways, and so many of it: none, some, all, more than all.
func TestScan(t *testing.T) {
	keys := edges()
	l, p := skip.New(), plain{}
	for i, key := range keys {
		if i%3 != 1 {
			tells(t, l, p, call{kind: callPut, key: key, value: int64(i), height: 1 + i*11%7})
		}
	}
	for _, lo := range keys {
		for _, hi := range keys {
			for _, most := range []int{math.MinInt, -1, 0, 1, 2, 5, 12, 13, math.MaxInt} {
				for _, open := range []bool{false, true} {
					for _, back := range []bool{false, true} {
						tells(t, l, p, call{kind: callScan, within: api.Range{Lo: lo, Hi: hi, Open: open}, back: back, most: most})
					}
				}
			}
		}
	}
	if s := l.Scan(api.Range{}, false, 9); len(s) != 0 {
		t.Errorf("Scan of the zero range = %v", s)
	}
	if s := l.Scan(api.Range{Hi: "\x00"}, true, 9); !slices.Equal(s, []api.Entry{{Key: "", Value: 0, Height: 1}}) {
		t.Errorf("Scan of the empty key alone = %v", s)
	}
}

// Sk2: scans of a long list, of keys on their own heights, all on the lowest level, all on all, and on rising ones.
func TestScanOfMany(t *testing.T) {
	heights := []func(i int, key string) int{
		func(_ int, key string) int { return skip.Height(key) },
		func(int, string) int { return 1 },
		func(int, string) int { return 16 },
		func(i int, _ string) int { return 1 + i*16/700 },
		func(i int, _ string) int { return 16 - i*16/700 },
	}
	for n, height := range heights {
		l, p, c := skip.New(), plain{}, chance{r: uint64(n), keys: numbered(700)}
		for i := range c.keys {
			key := c.keys[i*501%700]
			tells(t, l, p, call{kind: callPut, key: key, value: int64(i), height: height(i*501%700, key)})
		}
		shows(t, l, p)
		for range 400 {
			tells(t, l, p, c.call(callScan))
			tells(t, l, p, c.call(callSeek))
		}
		for _, key := range c.keys[100:600] {
			tells(t, l, p, call{kind: callDelete, key: key})
		}
		shows(t, l, p)
		for range 200 {
			tells(t, l, p, c.call(callScan))
			tells(t, l, p, c.call(callSeek))
		}
	}
}

// numbered is so many keys, rising, of unlike lengths.
func numbered(n int) []string {
	var l []string
	for i := range n {
		l = append(l, string([]byte{byte(i >> 6), byte(i << 2)})+strings.Repeat("x", i%3))
	}
	return l
}

// R4: lists know nothing of others.
func TestListsAreApart(t *testing.T) {
	a, p := skip.New(), plain{}
	b, q := skip.New(), plain{}
	tells(t, a, p, call{kind: callPut, key: "k", value: 1, height: 2})
	tells(t, b, q, call{kind: callPut, key: "k", value: 2, height: 5})
	tells(t, b, q, call{kind: callPut, key: "l", value: 3, height: 1})
	shows(t, a, p)
	tells(t, a, p, call{kind: callDelete, key: "k"})
	tells(t, a, p, call{kind: callDelete, key: "l"})
	shows(t, a, p)
	shows(t, b, q)
}
