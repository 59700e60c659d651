package code_test

import (
	"encoding/hex"
	"math"
	"math/big"
	"slices"
	"strings"
	"testing"

	"vellum/api"
	"vellum/code"
	"vellum/lit"
)

// Co1: the bytes of keys, kind by kind; the chapter's examples are among them.
func TestEncode(t *testing.T) {
	for _, c := range []struct {
		l    []api.Value
		want string
	}{
		{nil, ""},
		{[]api.Value{}, ""},
		{list(lit.Null()), "01"},
		{list(lit.Null(), lit.Null()), "0101"},
		{list(lit.Bool(false)), "0200"},
		{list(lit.Bool(true)), "0201"},
		{list(lit.Int(0)), "0380"},
		{list(lit.Int(1)), "038101"},
		{list(lit.Int(255)), "0381ff"},
		{list(lit.Int(256)), "03820100"},
		{list(lit.Int(65535)), "0382ffff"},
		{list(lit.Int(65536)), "0383010000"},
		{list(lit.Int(1 << 55)), "038780000000000000"},
		{list(lit.Int(1 << 56)), "03880100000000000000"},
		{list(lit.Int(math.MaxInt64)), "03887fffffffffffffff"},
		{list(lit.Int(-1)), "037fff"},
		{list(lit.Int(-2)), "037ffe"},
		{list(lit.Int(-256)), "037f00"},
		{list(lit.Int(-257)), "037efeff"},
		{list(lit.Int(-65536)), "037e0000"},
		{list(lit.Int(-65537)), "037dfeffff"},
		{list(lit.Int(-1 << 56)), "037900000000000000"},
		{list(lit.Int(-1<<56 - 1)), "0378feffffffffffffff"},
		{list(lit.Int(math.MinInt64)), "03788000000000000000"},
		{list(lit.Float(1.5)), "04bff8000000000000"},
		{list(lit.Float(-1.5)), "044007ffffffffffff"},
		{list(lit.Float(0)), "048000000000000000"},
		{list(lit.Bits(negativeZero)), "048000000000000000"},
		{list(lit.Float(math.SmallestNonzeroFloat64)), "048000000000000001"},
		{list(lit.Float(-math.SmallestNonzeroFloat64)), "047ffffffffffffffe"},
		{list(lit.Float(math.Inf(1))), "04fff0000000000000"},
		{list(lit.Float(math.Inf(-1))), "04000fffffffffffff"},
		{list(lit.Bits(plainNaN)), "04fff8000000000000"},
		{list(lit.Bits(0x7FF0000000000001)), "04fff8000000000000"},
		{list(lit.Bits(math.MaxUint64)), "04fff8000000000000"},
		{list(lit.Text("")), "0500"},
		{list(lit.Text("a\x00b"), lit.Null()), "056100ff620001"},
		{list(lit.Text("\x00")), "0500ff00"},
		{list(lit.Text("\u00ff")), "05c3bf00"},
		{list(lit.Bytes("")), "0600"},
		{list(lit.Bytes("\x00\xff\x00")), "0600ffff00ff00"},
		{list(lit.Text("a"), lit.Bytes("b"), lit.Int(-1), lit.Bool(true)), "056100066200037fff0201"},
	} {
		key, e := code.Encode(c.l)
		if got := hex.EncodeToString([]byte(key)); got != c.want || e != api.OK {
			t.Errorf("Encode(%s) = %s, %d, want %s", shown(c.l), got, e, c.want)
		}
	}
}

// Co1: an int has as few bytes as hold it, at all sizes.
func TestEncodeInts(t *testing.T) {
	for _, n := range ints() {
		if key := keyOf(t, list(lit.Int(n))); key != intKey(n) {
			t.Errorf("Encode of %d = %x, want %x", n, key, intKey(n))
		}
	}
}

// intKey works an int's key out by big numbers.
func intKey(n int64) string {
	m := big.NewInt(n)
	if n >= 0 {
		return "\x03" + string(append([]byte{byte(0x80 + len(m.Bytes()))}, m.Bytes()...))
	}
	m.Neg(m.Add(m, big.NewInt(1)))
	b := m.Bytes()
	if len(b) == 0 {
		b = []byte{0}
	}
	key := []byte{3, byte(0x80 - len(b))}
	for _, c := range b {
		key = append(key, 0xFF-c)
	}
	return string(key)
}

// Co1: a key of MaxKey bytes may be, a longer one not.
func TestEncodeLong(t *testing.T) {
	fits := strings.Repeat("a", api.MaxKey-2)
	zeros := strings.Repeat("\x00", (api.MaxKey-2)/2)
	nulls := make([]api.Value, api.MaxKey)
	for _, l := range [][]api.Value{list(lit.Text(fits)), list(lit.Bytes(zeros)), nulls, list(lit.Text(fits[1:]), lit.Null())} {
		if key := keyOf(t, l); len(key) != api.MaxKey {
			t.Errorf("a key of %d bytes, want %d", len(key), api.MaxKey)
		}
	}
	for _, l := range [][]api.Value{
		list(lit.Text(fits + "a")), list(lit.Bytes(zeros + "a")), append(nulls, lit.Null()), list(lit.Text(fits), lit.Null()), list(lit.Null(), lit.Text(fits)),
		list(lit.Text(strings.Repeat("a", api.MaxRow))), list(lit.Bytes(strings.Repeat("\x00", api.MaxRow))),
	} {
		refusedBy(t, l, api.ErrLong)
	}
}

// Co1: a value that may not be, for whatever reason and at whatever place, goes ahead of the length.
func TestEncodeWrong(t *testing.T) {
	long := lit.Text(strings.Repeat("a", api.MaxKey))
	for _, v := range wrong() {
		refusedBy(t, list(v), api.ErrValue)
		refusedBy(t, list(lit.Null(), v), api.ErrValue)
		refusedBy(t, list(v, lit.Int(1)), api.ErrValue)
		refusedBy(t, list(long, v), api.ErrValue)
		refusedBy(t, list(long, v, long), api.ErrValue)
	}
}

// refusedBy holds all that goes by a list's key to the same error, and to zero values beside it (Co1, Co2).
func refusedBy(t *testing.T, l []api.Value, want api.Errno) {
	t.Helper()
	if key, e := code.Encode(l); e != want || key != "" {
		t.Errorf("Encode(%s) = %q, %d, want %d", shown(l), key, e, want)
	}
	if r, e := code.Begins(l); e != want || r != (api.Range{}) {
		t.Errorf("Begins(%s) = %+v, %d, want %d", shown(l), r, e, want)
	}
	for _, in := range []bool{true, false} {
		if r, e := code.From(l, in); e != want || r != (api.Range{}) {
			t.Errorf("From(%s, %v) = %+v, %d, want %d", shown(l), in, r, e, want)
		}
		if r, e := code.To(l, in); e != want || r != (api.Range{}) {
			t.Errorf("To(%s, %v) = %+v, %d, want %d", shown(l), in, r, e, want)
		}
	}
}

// Co1: bytes that are the key of no list.
func TestDecodeWrong(t *testing.T) {
	for _, s := range []string{
		"00", "07", "ff", "0100", "01ff", "80",
		"02", "0202", "02ff", "020001020301",
		"03", "0377", "0389", "0300", "03ff", "0381", "037f", "03820100038201", "037e00",
		"038100", "03820001", "0383000100", "03880000000000000001", "0388007fffffffffffff",
		"03888000000000000000", "0388ffffffffffffffff",
		"037eff00", "037effff", "0378ffffffffffffffff", "03787fffffffffffffff", "03780000000000000000", "0389010000000000000000", "0377000000000000000000",
		"04", "0480000000000000", "047fffffffffffffff", "04fff8000000000001", "04fff0000000000001", "04ffffffffffffffff", "040000000000000000", "040007ffffffffffff", "04000ffffffffffffe",
		"05", "0561", "05ff00", "05c300", "05eda08000", "050000", "0500ff", "056100ff", "0500ffff00", "05610000",
		"06", "0661", "0600ff", "060000", "06ff00ff",
	} {
		key, err := hex.DecodeString(s)
		if err != nil {
			t.Fatal(err)
		}
		for _, k := range []string{string(key), "\x01" + string(key), "\x05a\x00" + string(key)} {
			if l, e := code.Decode(k); e != api.ErrCode || len(l) != 0 {
				t.Errorf("Decode(%x) = %s, %d, want ErrCode", k, shown(l), e)
			}
		}
	}
}

// Co1: a key of more than MaxKey bytes is refused for that, whatever it has.
func TestDecodeLong(t *testing.T) {
	for _, s := range []string{"\x00", "\x01", "\xff"} {
		if l, e := code.Decode(strings.Repeat(s, api.MaxKey+1)); e != api.ErrLong || len(l) != 0 {
			t.Errorf("Decode of %d bytes %x = %d values, %d, want ErrLong", api.MaxKey+1, s, len(l), e)
		}
	}
	if _, e := code.Decode(strings.Repeat("\x00", api.MaxKey)); e != api.ErrCode {
		t.Errorf("Decode of MaxKey bytes 0 = %d, want ErrCode", e)
	}
	if l, e := code.Decode(strings.Repeat("\x01", api.MaxKey)); e != api.OK || len(l) != api.MaxKey {
		t.Errorf("Decode of MaxKey nulls = %d values, %d", len(l), e)
	}
}

// Co1: floats come back with the bits that the code names.
func TestDecodeFloats(t *testing.T) {
	for key, want := range map[string]uint64{
		"\x04\x80\x00\x00\x00\x00\x00\x00\x00": 0,
		"\x04\xff\xf8\x00\x00\x00\x00\x00\x00": plainNaN,
		"\x04\xff\xf0\x00\x00\x00\x00\x00\x00": 0x7FF0000000000000,
		"\x04\x00\x0f\xff\xff\xff\xff\xff\xff": 0xFFF0000000000000,
	} {
		l, e := code.Decode(key)
		if e != api.OK || len(l) != 1 || l[0].Kind != api.KindFloat || math.Float64bits(l[0].F) != want {
			t.Errorf("Decode(%x) = %s, %d, want the bits %x", key, shown(l), e, want)
		}
	}
}

// Co1, Co6: of all keys of up to three bytes just those are read that some list has.
func TestDecodeShort(t *testing.T) {
	have := map[string][]api.Value{}
	var grow func(l []api.Value)
	values := shortValues()
	grow = func(l []api.Value) {
		key := keyOf(t, l)
		if len(key) > 3 {
			return
		}
		have[key] = slices.Clone(l)
		for _, v := range values[len(key)] {
			grow(append(l, v))
		}
	}
	grow(nil)
	for size := range 4 {
		key := make([]byte, size)
		for n := range 1 << (8 * size) {
			for i := range key {
				key[i] = byte(n >> (8 * i))
			}
			l, e := code.Decode(string(key))
			want, ok := have[string(key)]
			if ok != (e == api.OK) || !ok && (e != api.ErrCode || l != nil) || !identical(l, want) {
				t.Fatalf("Decode(%x) = %s, %d, want %s", key, shown(l), e, shown(want))
			}
		}
	}
}

// shortValues is all values whose codes may stand behind so many bytes of a key of three.
func shortValues() [4][]api.Value {
	one := list(lit.Null())
	two := append(slices.Clone(one), lit.Bool(false), lit.Bool(true), lit.Int(0), lit.Text(""), lit.Bytes(""))
	three := slices.Clone(two)
	for n := int64(1); n < 256; n++ {
		three = append(three, lit.Int(n), lit.Int(-n), lit.Bytes(string([]byte{byte(n)})))
		if n < 128 {
			three = append(three, lit.Text(string(rune(n))))
		}
	}
	return [4][]api.Value{append(three, lit.Int(-256)), two, one, nil}
}
