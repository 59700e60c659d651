package skip_test

import (
	"hash/fnv"
	"math/bits"
	"strings"
	"testing"

	"vellum/skip"
)

// plainHeight is the words of the chapter, by the library's sum.
func plainHeight(key string) int {
	h := fnv.New64a()
	h.Write([]byte(key))
	height := 1
	for sum := h.Sum64(); height < 16 && sum%4 == 0; sum /= 4 {
		height++
	}
	return height
}

// Sk1: keys whose sums end in so many noughts as stands beside them; the last one's sum is 0.
func TestHeightOfEachSum(t *testing.T) {
	tests := []struct {
		key    string
		zeros  int
		height int
	}{
		{"", 0, 1},
		{"\x00\x00\x00\x00\x00O", 8, 5},
		{"\x01\x00\x00\x00\x00\xec", 9, 5},
		{"\x06\x00\x00\x00\x00\x89", 10, 6},
		{"\r\x00\x00\x00\x00x", 11, 6},
		{"\x17\x00\x00\x00\x00V", 12, 7},
		{"c\x00\x00\x00\x00\x12", 13, 7},
		{"\x90\x00\x00\x00\x00\xff", 14, 8},
		{"\xd3\x01\x00\x00\x00\xb3", 15, 8},
		{"N\x00\x00\x00\x00a", 16, 9},
		{"\x9d\x00\x00\x00\x00(", 17, 9},
		{"\xa2\n\x00\x00\x00\xdf", 18, 10},
		{"c$\x00\x00\x006", 19, 10},
		{"8'\x00\x00\x00`", 20, 11},
		{"9R\x00\x00\x00&", 21, 11},
		{"<P\x01\x00\x00\xb0", 22, 12},
		{"c\xfb\x00\x00\x00\x19", 23, 12},
		{"\x16\x9f\x04\x00\x00B", 24, 13},
		{"\x94\xf0\x04\x00\x00\x8f", 25, 13},
		{"\xa5m\r\x00\x00>", 26, 14},
		{";\x00\x00\x00\x00\x9a", 27, 14},
		{"\n\xb9\f\x00\x00\xa0", 28, 15},
		{"\xac\xe9\x05\x00\x00A", 29, 15},
		{"c\x885\x00\x00)", 30, 16},
		{"<\xce\xc4\x00\x00\x19", 31, 16},
		{"\xa0\x9bW\x01\x00\xc0", 32, 16},
		{"H\a\xb6\x06\x00\xb4", 36, 16},
		{"\xd5\x6b\xb9\x53\x42\x87\x08\x36", 64, 16},
	}
	for _, x := range tests {
		h := fnv.New64a()
		h.Write([]byte(x.key))
		if zeros := bits.TrailingZeros64(h.Sum64()); zeros != x.zeros {
			t.Fatalf("the sum of %q ends in %d noughts, not %d", x.key, zeros, x.zeros)
		}
		if got := skip.Height(x.key); got != x.height {
			t.Errorf("Height(%q) = %d, want %d", x.key, got, x.height)
		}
	}
}

// Sk1: many keys, of all lengths, also beyond those that a list takes.
func TestHeights(t *testing.T) {
	seen := map[int]int{}
	for n := range 1 << 16 {
		key := string([]byte{byte(n), byte(n >> 8)})
		if got, want := skip.Height(key), plainHeight(key); got != want {
			t.Fatalf("Height(%q) = %d, want %d", key, got, want)
		}
		seen[skip.Height(key)]++
	}
	if len(seen) < 6 {
		t.Errorf("of 65536 keys so many stand on each height: %v", seen)
	}
	for _, part := range []string{"a", "\x00", "\xff", "\xc3\xa9"} {
		for n := range 1100 {
			key := strings.Repeat(part, n)
			if got, want := skip.Height(key), plainHeight(key); got != want {
				t.Fatalf("Height of %d times %q = %d, want %d", n, part, got, want)
			}
		}
	}
}
