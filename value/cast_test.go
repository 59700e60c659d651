package value_test

import (
	"math"
	"math/big"
	"strings"
	"testing"

	"vellum/api"
	"vellum/value"
)

type cast struct {
	from api.Value
	to   int
	want api.Value
}

func checkCasts(t *testing.T, casts []cast) {
	t.Helper()
	for _, c := range casts {
		if got, e := value.Cast(c.from, c.to); e != api.OK || !identical(got, c.want) {
			t.Errorf("Cast(%v, %d) = %v, %d, want %v", shown(c.from), c.to, shown(got), e, shown(c.want))
		}
	}
}

func checkNoCasts(t *testing.T, to int, values []api.Value) {
	t.Helper()
	for _, v := range values {
		if got, e := value.Cast(v, to); e != api.ErrValue || !identical(got, null()) {
			t.Errorf("Cast(%v, %d) = %v, %d, want ErrValue", shown(v), to, shown(got), e)
		}
	}
}

// Va3: a kind that is none goes ahead of a value that may not be.
func TestCastArguments(t *testing.T) {
	for _, kind := range []int{-1, 6, math.MinInt, math.MaxInt} {
		for _, v := range []api.Value{null(), whole(1), {Kind: 9}, text(strings.Repeat("a", api.MaxRow+1))} {
			if got, e := value.Cast(v, kind); e != api.ErrArg || !identical(got, null()) {
				t.Errorf("Cast(%v, %d) = %v, %d, want ErrArg", shown(v), kind, shown(got), e)
			}
		}
	}
	for want, list := range wrong() {
		for _, v := range list {
			for kind := api.KindNull; kind <= api.KindBytes; kind++ {
				if got, e := value.Cast(v, kind); e != want || !identical(got, null()) {
					t.Errorf("Cast(%v, %d) = %v, %d, want %d", shown(v), kind, shown(got), e, want)
				}
			}
		}
	}
}

// Va3: null stays null, and a value of the kind stays what it is, bit by bit; nothing else is cast to null.
func TestCastToItself(t *testing.T) {
	for kind := api.KindNull; kind <= api.KindBytes; kind++ {
		checkCasts(t, []cast{{null(), kind, null()}})
	}
	for _, v := range good() {
		checkCasts(t, []cast{{v, v.Kind, v}})
		if v.Kind != api.KindNull {
			checkNoCasts(t, api.KindNull, []api.Value{v})
		}
	}
}

// Va3: to int.
func TestCastToInt(t *testing.T) {
	below := math.Nextafter(1<<63, 0)
	checkCasts(t, []cast{
		{boolean(0), api.KindInt, whole(0)},
		{boolean(1), api.KindInt, whole(1)},
		{float(2), api.KindInt, whole(2)},
		{float(-3), api.KindInt, whole(-3)},
		{fromBits(negativeZero), api.KindInt, whole(0)},
		{float(1 << 53), api.KindInt, whole(1 << 53)},
		{float(below), api.KindInt, whole(1<<63 - 1024)},
		{float(-1 << 63), api.KindInt, whole(math.MinInt64)},
		{text("12"), api.KindInt, whole(12)},
		{text("-9223372036854775808"), api.KindInt, whole(math.MinInt64)},
		{text("9223372036854775807"), api.KindInt, whole(math.MaxInt64)},
	})
	checkNoCasts(t, api.KindInt, []api.Value{
		float(2.5), float(-0.5), float(math.SmallestNonzeroFloat64), float(1 << 63), float(math.Nextafter(-1<<63, math.Inf(-1))),
		float(math.Inf(1)), float(math.Inf(-1)), float(math.NaN()), float(math.MaxFloat64),
		text(""), text(" 1"), text("01"), text("-0"), text("1.0"), text("1e0"), text("true"), text("null"), text("'1'"), text("9223372036854775808"), text("-9223372036854775809"),
		raw("1"), raw(""),
	})
}

// Va3: to float; ints are rounded to the nearest one, of two to the even one.
func TestCastToFloat(t *testing.T) {
	checkCasts(t, []cast{
		{boolean(0), api.KindFloat, fromBits(0)},
		{boolean(1), api.KindFloat, float(1)},
		{whole(0), api.KindFloat, fromBits(0)},
		{whole(-5), api.KindFloat, float(-5)},
		{whole(1<<53 + 1), api.KindFloat, float(1 << 53)},
		{whole(1<<53 + 3), api.KindFloat, float(1<<53 + 4)},
		{whole(-1<<53 - 1), api.KindFloat, float(-1 << 53)},
		{whole(math.MaxInt64), api.KindFloat, float(1 << 63)},
		{whole(math.MinInt64), api.KindFloat, float(-1 << 63)},
		{text("0.5"), api.KindFloat, float(0.5)},
		{text("-0.0"), api.KindFloat, fromBits(negativeZero)},
		{text("-1e-400"), api.KindFloat, fromBits(negativeZero)},
		{text("0"), api.KindFloat, fromBits(0)},
		{text("9007199254740993"), api.KindFloat, float(1 << 53)},
		{text("NaN"), api.KindFloat, fromBits(plainNaN)},
		{text("-Infinity"), api.KindFloat, float(math.Inf(-1))},
	})
	checkNoCasts(t, api.KindFloat, []api.Value{text(""), text("-0"), text("1."), text("1e400"), text("true"), text("null"), text("9223372036854775808"), text("'1.0'"), raw("1.0")})
	for _, v := range good() {
		if v.Kind == api.KindInt {
			checkCasts(t, []cast{{v, api.KindFloat, float(nearest(new(big.Rat).SetInt64(v.N)))}})
		}
	}
}

// Va3: to bool.
func TestCastToBool(t *testing.T) {
	checkCasts(t, []cast{
		{whole(0), api.KindBool, boolean(0)},
		{whole(1), api.KindBool, boolean(1)},
		{text("true"), api.KindBool, boolean(1)},
		{text("false"), api.KindBool, boolean(0)},
	})
	checkNoCasts(t, api.KindBool, []api.Value{
		whole(2), whole(-1), whole(math.MinInt64), whole(1 << 32), whole(1<<32 + 1),
		float(0), float(1), float(math.NaN()), text("TRUE"), text("t"), text("1"), text("0"), text(""), text("null"), text(" true"), raw("true"),
	})
}

// Va3: to text and to bytes.
func TestCastToTextAndBytes(t *testing.T) {
	full := strings.Repeat("a", api.MaxRow)
	checkCasts(t, []cast{
		{boolean(0), api.KindText, text("false")},
		{boolean(1), api.KindText, text("true")},
		{whole(-7), api.KindText, text("-7")},
		{float(1.5), api.KindText, text("1.5e+00")},
		{fromBits(negativeZero), api.KindText, text("-0e+00")},
		{fromBits(fullNaN), api.KindText, text("NaN")},
		{float(math.Inf(-1)), api.KindText, text("-Infinity")},
		{raw("it's"), api.KindText, text("it's")},
		{raw(""), api.KindText, text("")},
		{raw(full), api.KindText, text(full)},
		{text("é"), api.KindBytes, raw("\xc3\xa9")},
		{text(""), api.KindBytes, raw("")},
		{text(full), api.KindBytes, raw(full)},
	})
	checkNoCasts(t, api.KindText, []api.Value{raw("\xff"), raw("a\xc3"), raw("\xed\xa0\x80")})
	checkNoCasts(t, api.KindBytes, []api.Value{boolean(0), boolean(1), whole(1), float(1), float(math.NaN())})
}
