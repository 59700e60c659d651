package code_test

import (
	"math"
	"math/rand/v2"
	"slices"
	"strings"
	"testing"

	"vellum/api"
	"vellum/code"
	"vellum/lit"
)

// Co5, P1: keys stand as their lists do.
func TestKeysStandAsLists(t *testing.T) {
	all := lists()
	keys := make([]string, len(all))
	for i, l := range all {
		keys[i] = keyOf(t, l)
	}
	for i, a := range all {
		for j, b := range all {
			if got, want := strings.Compare(keys[i], keys[j]), compareLists(a, b); got != want {
				t.Fatalf("the keys of %s and %s: %x, %x stand %d, want %d", shown(a), shown(b), keys[i], keys[j], got, want)
			}
		}
	}
}

// Co5: ints and floats at all sizes stand as numbers.
func TestNumbersStandAsKeys(t *testing.T) {
	last := ""
	for _, n := range ints() {
		key := keyOf(t, list(lit.Int(n)))
		if key <= last {
			t.Fatalf("the key of %d, %x, is not above that of the int ahead of it, %x", n, key, last)
		}
		last = key
	}
	r := rand.New(rand.NewPCG(3, 4))
	var floats []float64
	for range 20000 {
		if f := math.Float64frombits(r.Uint64()); f == f {
			floats = append(floats, f, math.Nextafter(f, 0))
		}
	}
	slices.Sort(floats)
	for i := 1; i < len(floats); i++ {
		a, b := keyOf(t, list(lit.Float(floats[i-1]))), keyOf(t, list(lit.Float(floats[i])))
		if (a < b) != (floats[i-1] < floats[i]) || a > b {
			t.Fatalf("the keys of %v and %v: %x, %x", floats[i-1], floats[i], a, b)
		}
	}
}

// Co6, P1: Decode of Encode is the list, but for -0 and NaNs; Encode of Decode is the key.
func TestThereAndBack(t *testing.T) {
	all := lists()
	for _, n := range ints() {
		all = append(all, list(lit.Int(n)), list(lit.Int(n), lit.Int(n)))
	}
	r := rand.New(rand.NewPCG(5, 6))
	for range 20000 {
		all = append(all, list(lit.Bits(r.Uint64()), lit.Int(int64(r.Uint64()>>r.IntN(64)))))
	}
	for b := range 256 {
		all = append(all, list(lit.Bytes(string([]byte{byte(b)})), lit.Bytes(string([]byte{0, byte(b)})), lit.Bytes(string([]byte{byte(b), 0}))))
	}
	all = append(all, list(lit.Text(strings.Repeat("a", api.MaxKey-2))), make([]api.Value, api.MaxKey))
	for _, l := range all {
		key := keyOf(t, l)
		back, e := code.Decode(key)
		if e != api.OK || !identical(back, plain(l)) {
			t.Fatalf("Decode of the key %x of %s = %s, %d", key, shown(l), shown(back), e)
		}
		if again := keyOf(t, back); again != key {
			t.Fatalf("Encode of Decode of %x = %x", key, again)
		}
	}
}

// Co6: what Decode reads of random bytes has those bytes as its key.
func TestRandomKeys(t *testing.T) {
	r := rand.New(rand.NewPCG(7, 8))
	edges := []byte{0, 0, 1, 2, 3, 3, 4, 5, 5, 6, 6, 'a', 0x7E, 0x7F, 0x80, 0x81, 0x82, 0x88, 0xC3, 0xFE, 0xFF, 0xFF}
	read := 0
	for range 300000 {
		key := make([]byte, r.IntN(10))
		for i := range key {
			key[i] = edges[r.IntN(len(edges))]
		}
		l, e := code.Decode(string(key))
		if e != api.OK {
			if e != api.ErrCode || l != nil {
				t.Fatalf("Decode(%x) = %s, %d", key, shown(l), e)
			}
			continue
		}
		read++
		if again := keyOf(t, l); again != string(key) {
			t.Fatalf("Decode(%x) = %s, whose key is %x", key, shown(l), again)
		}
	}
	if read < 1000 {
		t.Errorf("only %d of the random keys were read", read)
	}
}

// Co7: a list's key is in Begins of another one just if that one is a beginning of it; From and To share all keys out between them.
func TestBegins(t *testing.T) {
	all := lists()
	keys := make([]string, len(all))
	for i, l := range all {
		keys[i] = keyOf(t, l)
	}
	for i, b := range all {
		if i%3 != 0 && len(b) > 1 {
			continue
		}
		begin, _ := code.Begins(b)
		from, _ := code.From(b, true)
		behind, _ := code.From(b, false)
		upto, _ := code.To(b, true)
		below, _ := code.To(b, false)
		for j, a := range all {
			key, in, less := keys[j], begins(a, b), compareLists(a, b) < 0
			if code.Has(begin, key) != in {
				t.Fatalf("%s in Begins(%s): %v", shown(a), shown(b), !in)
			}
			if code.Has(from, key) == less || code.Has(below, key) != less {
				t.Fatalf("%s in From(%s, true) or in To(%s, false): not as they stand", shown(a), shown(b), shown(b))
			}
			if code.Has(upto, key) != (less || in) || code.Has(behind, key) == (less || in) {
				t.Fatalf("%s in To(%s, true) or in From(%s, false): not as they stand", shown(a), shown(b), shown(b))
			}
		}
	}
}

// R3: what is handed in is not changed, not behind its end either; what is answered is new.
func TestNothingIsShared(t *testing.T) {
	room := list(lit.Int(1), lit.Text("a"), lit.Int(7), lit.Int(8))
	kept := slices.Clone(room)
	key := keyOf(t, room[:2])
	for _, in := range []bool{true, false} {
		code.From(room[:2], in)
		code.To(room[:2], in)
	}
	code.Begins(room[:2])
	if !identical(room, kept) {
		t.Errorf("the list handed in is %s now", shown(room))
	}
	a, _ := code.Decode(key)
	b, _ := code.Decode(key)
	a[0] = lit.Null()
	_ = append(a[:1], lit.Null(), lit.Null())
	if !identical(b, kept[:2]) {
		t.Errorf("another answer is %s now", shown(b))
	}
	ranges := []api.Range{{Lo: "c", Hi: "d"}, {Lo: "a", Hi: "a"}, {Lo: "b", Hi: "q", Open: true}, {Lo: "y", Hi: "z"}}
	was := slices.Clone(ranges)
	u := code.Union(ranges[:3])
	u[0].Lo = "x"
	_ = append(u, was...)
	if !slices.Equal(ranges, was) {
		t.Errorf("the ranges handed in are %+v now", ranges)
	}
	if again := code.Union(was[:3]); !slices.Equal(again, []api.Range{{Lo: "b", Open: true}}) {
		t.Errorf("Union = %+v", again)
	}
}
