package value_test

import (
	"math"
	"math/big"
	"strings"
	"testing"

	"vellum/api"
	"vellum/lit"
	"vellum/value"
)

type cast struct {
	from api.Value
	to   int
	want api.Value
}

func checkCasts(t *testing.T, casts []cast) {
	t.Helper()
	for _, c := range casts {
		if got, e := value.Cast(c.from, c.to); e != api.OK || !identical(got, c.want) {
			t.Errorf("Cast(%v, %d) = %v, %d, want %v", shown(c.from), c.to, shown(got), e, shown(c.want))
		}
	}
}

func checkNoCasts(t *testing.T, to int, values []api.Value) {
	t.Helper()
	for _, v := range values {
		if got, e := value.Cast(v, to); e != api.ErrValue || !identical(got, lit.Null()) {
			t.Errorf("Cast(%v, %d) = %v, %d, want ErrValue", shown(v), to, shown(got), e)
		}
	}
}

// Va3: a kind that is none goes ahead of a value that may not be.
func TestCastArguments(t *testing.T) {
	for _, kind := range []int{-1, 6, math.MinInt, math.MaxInt} {
		for _, v := range []api.Value{lit.Null(), lit.Int(1), {Kind: 9}, lit.Text(strings.Repeat("a", api.MaxRow+1))} {
			if got, e := value.Cast(v, kind); e != api.ErrArg || !identical(got, lit.Null()) {
				t.Errorf("Cast(%v, %d) = %v, %d, want ErrArg", shown(v), kind, shown(got), e)
			}
		}
	}
	for want, list := range wrong() {
		for _, v := range list {
			for kind := api.KindNull; kind <= api.KindBytes; kind++ {
				if got, e := value.Cast(v, kind); e != want || !identical(got, lit.Null()) {
					t.Errorf("Cast(%v, %d) = %v, %d, want %d", shown(v), kind, shown(got), e, want)
				}
			}
		}
	}
}

// Va3: null stays null, and a value of the kind stays what it is, bit by bit; nothing else is cast to null.
func TestCastToItself(t *testing.T) {
	for kind := api.KindNull; kind <= api.KindBytes; kind++ {
		checkCasts(t, []cast{{lit.Null(), kind, lit.Null()}})
	}
	for _, v := range good() {
		checkCasts(t, []cast{{v, v.Kind, v}})
		if v.Kind != api.KindNull {
			checkNoCasts(t, api.KindNull, []api.Value{v})
		}
	}
}

// Va3: to int.
func TestCastToInt(t *testing.T) {
	below := math.Nextafter(1<<63, 0)
	checkCasts(t, []cast{
		{lit.Bool(false), api.KindInt, lit.Int(0)},
		{lit.Bool(true), api.KindInt, lit.Int(1)},
		{lit.Float(2), api.KindInt, lit.Int(2)},
		{lit.Float(-3), api.KindInt, lit.Int(-3)},
		{lit.Bits(negativeZero), api.KindInt, lit.Int(0)},
		{lit.Float(1 << 53), api.KindInt, lit.Int(1 << 53)},
		{lit.Float(below), api.KindInt, lit.Int(1<<63 - 1024)},
		{lit.Float(-1 << 63), api.KindInt, lit.Int(math.MinInt64)},
		{lit.Text("12"), api.KindInt, lit.Int(12)},
		{lit.Text("-9223372036854775808"), api.KindInt, lit.Int(math.MinInt64)},
		{lit.Text("9223372036854775807"), api.KindInt, lit.Int(math.MaxInt64)},
	})
	checkNoCasts(t, api.KindInt, []api.Value{
		lit.Float(2.5), lit.Float(-0.5), lit.Float(math.SmallestNonzeroFloat64), lit.Float(1 << 63), lit.Float(math.Nextafter(-1<<63, math.Inf(-1))),
		lit.Float(math.Inf(1)), lit.Float(math.Inf(-1)), lit.Float(math.NaN()), lit.Float(math.MaxFloat64),
		lit.Text(""), lit.Text(" 1"), lit.Text("01"), lit.Text("-0"), lit.Text("1.0"), lit.Text("1e0"), lit.Text("true"), lit.Text("null"), lit.Text("'1'"), lit.Text("9223372036854775808"), lit.Text("-9223372036854775809"),
		lit.Bytes("1"), lit.Bytes(""),
	})
}

// Va3: to float; ints are rounded to the nearest one, of two to the even one.
func TestCastToFloat(t *testing.T) {
	checkCasts(t, []cast{
		{lit.Bool(false), api.KindFloat, lit.Bits(0)},
		{lit.Bool(true), api.KindFloat, lit.Float(1)},
		{lit.Int(0), api.KindFloat, lit.Bits(0)},
		{lit.Int(-5), api.KindFloat, lit.Float(-5)},
		{lit.Int(1<<53 + 1), api.KindFloat, lit.Float(1 << 53)},
		{lit.Int(1<<53 + 3), api.KindFloat, lit.Float(1<<53 + 4)},
		{lit.Int(-1<<53 - 1), api.KindFloat, lit.Float(-1 << 53)},
		{lit.Int(math.MaxInt64), api.KindFloat, lit.Float(1 << 63)},
		{lit.Int(math.MinInt64), api.KindFloat, lit.Float(-1 << 63)},
		{lit.Text("0.5"), api.KindFloat, lit.Float(0.5)},
		{lit.Text("-0.0"), api.KindFloat, lit.Bits(negativeZero)},
		{lit.Text("-1e-400"), api.KindFloat, lit.Bits(negativeZero)},
		{lit.Text("0"), api.KindFloat, lit.Bits(0)},
		{lit.Text("9007199254740993"), api.KindFloat, lit.Float(1 << 53)},
		{lit.Text("NaN"), api.KindFloat, lit.Bits(plainNaN)},
		{lit.Text("-Infinity"), api.KindFloat, lit.Float(math.Inf(-1))},
	})
	checkNoCasts(t, api.KindFloat, []api.Value{lit.Text(""), lit.Text("-0"), lit.Text("1."), lit.Text("1e400"), lit.Text("true"), lit.Text("null"), lit.Text("9223372036854775808"), lit.Text("'1.0'"), lit.Bytes("1.0")})
	for _, v := range good() {
		if v.Kind == api.KindInt {
			checkCasts(t, []cast{{v, api.KindFloat, lit.Float(nearest(new(big.Rat).SetInt64(v.N)))}})
		}
	}
}

// Va3: to bool.
func TestCastToBool(t *testing.T) {
	checkCasts(t, []cast{
		{lit.Int(0), api.KindBool, lit.Bool(false)},
		{lit.Int(1), api.KindBool, lit.Bool(true)},
		{lit.Text("true"), api.KindBool, lit.Bool(true)},
		{lit.Text("false"), api.KindBool, lit.Bool(false)},
	})
	checkNoCasts(t, api.KindBool, []api.Value{
		lit.Int(2), lit.Int(-1), lit.Int(math.MinInt64), lit.Int(1 << 32), lit.Int(1<<32 + 1),
		lit.Float(0), lit.Float(1), lit.Float(math.NaN()), lit.Text("TRUE"), lit.Text("t"), lit.Text("1"), lit.Text("0"), lit.Text(""), lit.Text("null"), lit.Text(" true"), lit.Bytes("true"),
	})
}

// Va3: to text and to bytes.
func TestCastToTextAndBytes(t *testing.T) {
	full := strings.Repeat("a", api.MaxRow)
	checkCasts(t, []cast{
		{lit.Bool(false), api.KindText, lit.Text("false")},
		{lit.Bool(true), api.KindText, lit.Text("true")},
		{lit.Int(-7), api.KindText, lit.Text("-7")},
		{lit.Float(1.5), api.KindText, lit.Text("1.5e+00")},
		{lit.Bits(negativeZero), api.KindText, lit.Text("-0e+00")},
		{lit.Bits(fullNaN), api.KindText, lit.Text("NaN")},
		{lit.Float(math.Inf(-1)), api.KindText, lit.Text("-Infinity")},
		{lit.Bytes("it's"), api.KindText, lit.Text("it's")},
		{lit.Bytes(""), api.KindText, lit.Text("")},
		{lit.Bytes(full), api.KindText, lit.Text(full)},
		{lit.Text("é"), api.KindBytes, lit.Bytes("\xc3\xa9")},
		{lit.Text(""), api.KindBytes, lit.Bytes("")},
		{lit.Text(full), api.KindBytes, lit.Bytes(full)},
	})
	checkNoCasts(t, api.KindText, []api.Value{lit.Bytes("\xff"), lit.Bytes("a\xc3"), lit.Bytes("\xed\xa0\x80")})
	checkNoCasts(t, api.KindBytes, []api.Value{lit.Bool(false), lit.Bool(true), lit.Int(1), lit.Float(1), lit.Float(math.NaN())})
}
