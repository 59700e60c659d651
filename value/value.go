// Package value is layer 1: values, their order and their texts: see shared/doc/01-value.md.
package value

import (
	"unicode/utf8"

	"vellum/api"
)

// Check tells why a value may not be.
func Check(v api.Value) api.Errno {
	if !isKind(v.Kind) || !numberMayBe(v) || !floatMayBe(v) || !stringMayBe(v) {
		return api.ErrValue
	}
	if len(v.S) > api.MaxRow {
		return api.ErrLong
	}
	return api.OK
}

// Same tells whether two values are the same, bit by bit.
func Same(a, b api.Value) bool {
	return a.Kind == b.Kind && a.N == b.N && sameBits(a.F, b.F) && a.S == b.S
}

// Plain is a value as keys have it.
func Plain(v api.Value) api.Value {
	if v.Kind == api.KindFloat {
		v.F = plainFloat(v.F)
	}
	return v
}

func isKind(kind int) bool {
	return kind >= api.KindNull && kind <= api.KindBytes
}

func numberMayBe(v api.Value) bool {
	switch v.Kind {
	case api.KindInt:
		return true
	case api.KindBool:
		return v.N == 0 || v.N == 1
	}
	return v.N == 0
}

func floatMayBe(v api.Value) bool {
	return v.Kind == api.KindFloat || sameBits(v.F, 0)
}

func stringMayBe(v api.Value) bool {
	switch v.Kind {
	case api.KindBytes:
		return true
	case api.KindText:
		return utf8.ValidString(v.S)
	}
	return v.S == ""
}
