package value_test

import (
	"math"
	"math/big"
	"math/rand/v2"
	"strconv"
	"strings"
	"testing"

	"vellum/api"
	"vellum/lit"
	"vellum/value"
)

func checkParse(t *testing.T, s string, want api.Value) {
	t.Helper()
	if v, e := value.Parse(s); e != api.OK || !identical(v, want) {
		t.Errorf("Parse(%.80q) = %v, %d, want %v", s, shown(v), e, shown(want))
	}
}

func checkNoParse(t *testing.T, s string, want api.Errno) {
	t.Helper()
	if v, e := value.Parse(s); e != want || !identical(v, lit.Null()) {
		t.Errorf("Parse(%.80q) = %v, %d, want %d", s, shown(v), e, want)
	}
}

// Va6: nulls, bools and ints.
func TestParseWords(t *testing.T) {
	checkParse(t, "null", lit.Null())
	checkParse(t, "true", lit.Bool(true))
	checkParse(t, "false", lit.Bool(false))
	checkParse(t, "0", lit.Int(0))
	checkParse(t, "-1", lit.Int(-1))
	checkParse(t, "10", lit.Int(10))
	checkParse(t, "9223372036854775807", lit.Int(math.MaxInt64))
	checkParse(t, "-9223372036854775808", lit.Int(math.MinInt64))
}

// Va6: floats, also in forms that Text does not write.
func TestParseFloats(t *testing.T) {
	checkParse(t, "NaN", lit.Bits(plainNaN))
	checkParse(t, "Infinity", lit.Float(math.Inf(1)))
	checkParse(t, "-Infinity", lit.Float(math.Inf(-1)))
	for s, want := range map[string]float64{
		"0.10": 0.1, "0.0": 0, "0e0": 0, "0e99999999999999999999": 0, "0.000e-5": 0, "1e5": 1e5, "1e+5": 1e5, "1e-5": 1e-5, "1e0000000000000000000000005": 1e5, "12.50e001": 125,
		"9007199254740993.0": 1 << 53, "9007199254740993.00000000000000000000000001": 1<<53 + 2, "9007199254740995.0": 1<<53 + 4, "1e-400": 0, "1e-99999999999999999999999": 0,
		"2.4703282292062327e-324": 0, "2.4703282292062328e-324": math.SmallestNonzeroFloat64, "2.2250738585072011e-308": 0x1p-1022 - 0x1p-1074, "10.0": 10, "0.5": 0.5,
		"1.7976931348623157e308": math.MaxFloat64, "1.7976931348623158e308": math.MaxFloat64, "1.797693134862315807e+308": math.MaxFloat64,
	} {
		checkParse(t, s, lit.Float(want))
		checkParse(t, "-"+s, lit.Float(math.Copysign(want, -1)))
	}
	checkParse(t, "-0.0", lit.Bits(negativeZero))
	checkParse(t, "-1e-400", lit.Bits(negativeZero))
}

// Va6: the greatest float's bound: below 2^1024 - 2^970 numbers are rounded to it, from there on to none.
func TestParseGreatest(t *testing.T) {
	bound := new(big.Int).Lsh(big.NewInt(1), 1024)
	bound.Sub(bound, new(big.Int).Lsh(big.NewInt(1), 970))
	below := new(big.Int).Sub(bound, big.NewInt(1))
	for _, s := range []string{below.String() + ".0", below.String() + "." + strings.Repeat("9", 2000), below.String() + "e0"} {
		checkParse(t, s, lit.Float(math.MaxFloat64))
		checkParse(t, "-"+s, lit.Float(-math.MaxFloat64))
	}
	for _, s := range []string{bound.String() + ".0", bound.String() + "e0", "1e309", "1e400", "1.8e308", "1.797693134862315808e+308", "1e99999999999999999999", "0.001e400"} {
		checkNoParse(t, s, api.ErrLiteral)
		checkNoParse(t, "-"+s, api.ErrLiteral)
	}
}

// Va6: a long run of digits and a great exponent against it.
func TestParseFarExponents(t *testing.T) {
	for _, n := range []int{50, 1000, 9999, 10000, 99999, 100000, 200000, 262000} {
		zeros, power := strings.Repeat("0", n), strconv.Itoa(n)
		checkParse(t, "0."+zeros+"15e"+power, lit.Float(0.15))
		checkParse(t, "15"+zeros+"e-"+power, lit.Float(15))
		checkParse(t, "-15"+zeros+".5e-"+power, lit.Float(-15))
		checkParse(t, "0."+zeros+"e"+power, lit.Float(0))
	}
	checkParse(t, "1"+strings.Repeat("0", api.MaxText-10)+"e-262134", lit.Float(1))
	checkNoParse(t, "1"+strings.Repeat("0", 200000)+".0", api.ErrLiteral)
	checkParse(t, "0."+strings.Repeat("0", 200000)+"1", lit.Float(0))
	checkParse(t, "1e-"+strings.Repeat("9", 200000), lit.Float(0))
	checkNoParse(t, "1e"+strings.Repeat("9", 200000), api.ErrLiteral)
	checkParse(t, "1e"+strings.Repeat("0", 200000)+"2", lit.Float(100))
}

// Va6: the nearest float, of two as near the even one, as rational numbers have it: random digits, and the middles between two floats with a little more or less.
func TestParseNearest(t *testing.T) {
	r := rand.New(rand.NewPCG(3, 4))
	for range 3000 {
		digits := strconv.FormatUint(r.Uint64(), 10) + strconv.FormatUint(r.Uint64(), 10)
		checkNearest(t, digits[:1]+"."+digits[1:2+r.IntN(len(digits)-2)]+"e"+strconv.Itoa(r.IntN(660)-335))
	}
	for i, f := range floats(100) {
		if i%4 != 0 || f == 0 {
			continue
		}
		f = math.Abs(f)
		next := math.Nextafter(f, 0)
		middle := new(big.Rat).Add(new(big.Rat).SetFloat64(f), new(big.Rat).SetFloat64(next))
		middle.Quo(middle, big.NewRat(2, 1))
		s := middle.FloatString(1080)
		checkNearest(t, s)
		checkNearest(t, s+"1")
		checkNearest(t, s[:len(s)/2]+"e0")
	}
}

func checkNearest(t *testing.T, s string) {
	t.Helper()
	r, ok := new(big.Rat).SetString(s)
	if !ok {
		t.Fatalf("%q is no number", s)
	}
	f := nearest(r)
	if math.IsInf(f, 0) {
		checkNoParse(t, s, api.ErrLiteral)
		return
	}
	checkParse(t, s, lit.Float(f))
}

// Va6: texts and bytes.
func TestParseStrings(t *testing.T) {
	checkParse(t, "''", lit.Text(""))
	checkParse(t, "''''", lit.Text("'"))
	checkParse(t, "'it''s'", lit.Text("it's"))
	checkParse(t, "'null'", lit.Text("null"))
	checkParse(t, "'a\x00\n\\é'", lit.Text("a\x00\n\\é"))
	checkParse(t, "x''", lit.Bytes(""))
	checkParse(t, "x'000aff27'", lit.Bytes("\x00\x0a\xff'"))
	full := strings.Repeat("a", api.MaxRow)
	checkParse(t, "'"+full+"'", lit.Text(full))
	checkParse(t, "'"+strings.Repeat("''", api.MaxRow)+"'", lit.Text(strings.Repeat("'", api.MaxRow)))
	checkParse(t, "x'"+strings.Repeat("61", api.MaxRow)+"'", lit.Bytes(full))
	checkNoParse(t, "'"+full+"a'", api.ErrLiteral)
	checkNoParse(t, "x'"+strings.Repeat("61", api.MaxRow+1)+"'", api.ErrLiteral)
}

// Va6: a text of MaxText bytes is read, one of one more is not, whatever it says.
func TestParseLong(t *testing.T) {
	zeros := strings.Repeat("0", api.MaxText-2)
	checkParse(t, "0."+zeros, lit.Float(0))
	checkNoParse(t, "0."+zeros+"0", api.ErrLong)
	checkNoParse(t, "1."+zeros+"x", api.ErrLong)
	checkNoParse(t, strings.Repeat("\xff", api.MaxText), api.ErrLiteral)
	checkNoParse(t, strings.Repeat("\xff", api.MaxText+1), api.ErrLong)
	checkNoParse(t, "'"+zeros+"'", api.ErrLiteral)
}

// Va6: what is no literal.
func TestParseWrong(t *testing.T) {
	for _, s := range []string{
		"", " ", "-", "+", ".", "e", "--1", " 1", "1 ", "1\n", "\x00",
		"NULL", "Null", "nul", "nulls", "TRUE", "True", "tru", "t", "FALSE", "f",
		"05", "00", "-0", "-00", "-05", "+1", "+0", "1_000", "0x10", "1a", "٣", "１", "9223372036854775808", "-9223372036854775809", "99999999999999999999999999",
		"5.", ".5", "-.5", "5.e1", ".e1", "00.5", "01.5", "-01.5", "1.5.", "1.5.5", "1..5", "1.-5", "+1.5", "1_0.5", "1.5_0", "0x1p3", "0x1.8p0", "1,5",
		"1e", "1e+", "1e-", "1e+-5", "1e--5", "1e++5", "1E5", "1.5E+00", "e5", "-e5", "1e5.", "1e5.0", "1e5e5", "1e 5", "01e5", "1e5x", "1p5", "1.5f",
		"nan", "NAN", "-NaN", "+NaN", "inf", "Inf", "-Inf", "infinity", "INFINITY", "+Infinity", "--Infinity", "Infinity ",
		"'", "'''", "'a", "a'", "'a'b'", "'a'' ", "'''''", "a", "'a' ", " 'a'", "\"a\"", "'\xff'", "'\xed\xa0\x80'", "'a'b", "'it's'",
		"x", "x'", "x'0'", "x'000'", "x'0g'", "x'0A'", "x'AA'", "X'00'", "x00", "x'00", "x'00'00'", "x '00'", "x'0 '", "x'''", "x''''", "x'00' ", "x\"00\"", "x'0\xff'", "x'+1'", "x'-1'",
	} {
		checkNoParse(t, s, api.ErrLiteral)
	}
}
