package value_test

import (
	"math"
	"math/big"
	"strconv"
	"strings"
	"testing"

	"vellum/api"
	"vellum/lit"
	"vellum/value"
)

// Va5: texts of all kinds.
func TestText(t *testing.T) {
	texts := []struct {
		v    api.Value
		want string
	}{
		{lit.Null(), "null"},
		{lit.Bool(false), "false"},
		{lit.Bool(true), "true"},
		{lit.Int(0), "0"},
		{lit.Int(-7), "-7"},
		{lit.Int(math.MinInt64), "-9223372036854775808"},
		{lit.Int(math.MaxInt64), "9223372036854775807"},
		{lit.Bits(plainNaN), "NaN"},
		{lit.Bits(signedNaN), "NaN"},
		{lit.Bits(signalNaN), "NaN"},
		{lit.Bits(fullNaN), "NaN"},
		{lit.Float(math.Inf(1)), "Infinity"},
		{lit.Float(math.Inf(-1)), "-Infinity"},
		{lit.Float(0), "0e+00"},
		{lit.Bits(negativeZero), "-0e+00"},
		{lit.Float(0.1), "1e-01"},
		{lit.Float(1.5), "1.5e+00"},
		{lit.Float(-12.25), "-1.225e+01"},
		{lit.Float(100), "1e+02"},
		{lit.Float(1e100), "1e+100"},
		{lit.Float(1 << 53), "9.007199254740992e+15"},
		{lit.Float(0x1p-44), "5.684341886080802e-14"},
		{lit.Float(1e23), "1e+23"},
		{lit.Float(math.SmallestNonzeroFloat64), "5e-324"},
		{lit.Float(-math.MaxFloat64), "-1.7976931348623157e+308"},
		{lit.Text(""), "''"},
		{lit.Text("it's"), "'it''s'"},
		{lit.Text("''"), "''''''"},
		{lit.Text("a\x00\n\"é"), "'a\x00\n\"é'"},
		{lit.Bytes(""), "x''"},
		{lit.Bytes("\x00\x0a\xff'"), "x'000aff27'"},
	}
	for _, c := range texts {
		if s, e := value.Text(c.v); s != c.want || e != api.OK {
			t.Errorf("Text(%v) = %q, %d, want %q", shown(c.v), s, e, c.want)
		}
	}
}

// Va5: the longest texts, and every byte.
func TestTextLong(t *testing.T) {
	var every []byte
	var digits strings.Builder
	for b := range 256 {
		every = append(every, byte(b))
		digits.WriteString(strconv.FormatInt(int64(b)+256, 16)[1:])
	}
	if s, e := value.Text(lit.Bytes(string(every))); s != "x'"+digits.String()+"'" || e != api.OK {
		t.Errorf("Text of all bytes = %q, %d", s, e)
	}
	quotes := strings.Repeat("'", api.MaxRow)
	if s, e := value.Text(lit.Text(quotes)); s != "'"+quotes+quotes+"'" || e != api.OK {
		t.Errorf("Text of MaxRow apostrophes has %d bytes, %d", len(s), e)
	}
	if s, e := value.Text(lit.Bytes(quotes)); s != "x'"+strings.Repeat("27", api.MaxRow)+"'" || e != api.OK {
		t.Errorf("Text of MaxRow bytes has %d bytes, %d", len(s), e)
	}
}

// Va5: what Check refuses.
func TestTextWrong(t *testing.T) {
	for want, list := range wrong() {
		for _, v := range list {
			if s, e := value.Text(v); s != "" || e != want {
				t.Errorf("Text(%v) = %.60q, %d, want %d", shown(v), s, e, want)
			}
		}
	}
}

// Va5: a float's digits are the shortest that are read back as it, and of these the nearest.
func TestTextShortest(t *testing.T) {
	for _, f := range floats(3000) {
		s, e := value.Text(lit.Float(f))
		if e != api.OK {
			t.Fatalf("Text(%v) = %d", f, e)
		}
		digits, power, ok := splitFloat(s)
		if !ok || strings.HasPrefix(s, "-") != math.Signbit(f) {
			t.Fatalf("Text(%v) = %q: not its form", f, s)
		}
		if f == 0 {
			continue
		}
		f = math.Abs(f)
		if decimal(digits, power).Cmp(new(big.Rat)) == 0 || nearest(decimal(digits, power)) != f {
			t.Errorf("Text(%v) = %q is not read back", f, s)
		}
		if k := len(digits.String()); k > 1 {
			lower := new(big.Int).Quo(digits, big.NewInt(10))
			upper := new(big.Int).Add(lower, big.NewInt(1))
			if nearest(decimal(lower, power+1)) == f || nearest(decimal(upper, power+1)) == f {
				t.Errorf("Text(%v) = %q is not the shortest", f, s)
			}
		}
		for _, step := range []int64{-1, 1} {
			other := decimal(new(big.Int).Add(digits, big.NewInt(step)), power)
			if nearest(other) == f && distance(other, f).Cmp(distance(decimal(digits, power), f)) < 0 {
				t.Errorf("Text(%v) = %q is not the nearest of the shortest", f, s)
			}
		}
	}
}

// splitFloat is a float's text as digits times a power of ten; false: it has not the form of one.
func splitFloat(s string) (*big.Int, int, bool) {
	mantissa, exponent, ok := strings.Cut(strings.TrimPrefix(s, "-"), "e")
	if !ok || len(exponent) < 3 || exponent[0] != '+' && exponent[0] != '-' || len(exponent) > 3 && exponent[1] == '0' || exponent == "-00" {
		return nil, 0, false
	}
	first, others, dotted := strings.Cut(mantissa, ".")
	if len(first) != 1 || dotted && (others == "" || others[len(others)-1] == '0') {
		return nil, 0, false
	}
	power, err := strconv.Atoi(exponent)
	digits, whole := new(big.Int).SetString(first+others, 10)
	return digits, power - len(others), err == nil && whole
}

func decimal(digits *big.Int, power int) *big.Rat {
	scale := new(big.Int).Exp(big.NewInt(10), big.NewInt(int64(max(power, -power))), nil)
	if power < 0 {
		return new(big.Rat).SetFrac(digits, scale)
	}
	return new(big.Rat).SetInt(new(big.Int).Mul(digits, scale))
}

func distance(r *big.Rat, f float64) *big.Rat {
	d := new(big.Rat).Sub(r, new(big.Rat).SetFloat64(f))
	return d.Abs(d)
}
