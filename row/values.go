package row

import (
	"math"
	"strings"

	"vellum/api"
	"vellum/lit"
	"vellum/value"
)

const floatSize = 8

// appendValue puts behind b what a row's bytes have of a value beside its pair.
func appendValue(b []byte, v api.Value) []byte {
	switch v.Kind {
	case api.KindInt:
		return appendVarint(b, zigzag(v.N))
	case api.KindFloat:
		return appendFloat(b, v.F)
	case api.KindText, api.KindBytes:
		return append(appendVarint(b, uint64(len(v.S))), v.S...)
	}
	return b
}

// readValue is the value that a column has by its pair and the bytes with which s begins, and how many these are; false: no value that may stand there.
func readValue(c api.Column, pair byte, s string) (api.Value, int, bool) {
	switch {
	case pair == pairNull:
		return lit.Null(), 0, c.Null
	case c.Kind == api.KindBool:
		return lit.Bool(pair == pairTrue), 0, pair == pairThere || pair == pairTrue
	case pair != pairThere:
		return api.Value{}, 0, false
	}
	switch c.Kind {
	case api.KindInt:
		return readInt(s)
	case api.KindFloat:
		return readFloat(s)
	}
	return readString(c.Kind, s)
}

func readInt(s string) (api.Value, int, bool) {
	n, size, ok := readVarint(s)
	return lit.Int(unzigzag(n)), size, ok
}

func appendFloat(b []byte, f float64) []byte {
	bits := math.Float64bits(f)
	for i := range floatSize {
		b = append(b, byte(bits>>(8*i)))
	}
	return b
}

func readFloat(s string) (api.Value, int, bool) {
	if len(s) < floatSize {
		return api.Value{}, 0, false
	}
	var bits uint64
	for i := range floatSize {
		bits |= uint64(s[i]) << (8 * i)
	}
	return lit.Bits(bits), floatSize, true
}

func readString(kind int, s string) (api.Value, int, bool) {
	length, size, ok := readVarint(s)
	if !ok || length > uint64(len(s)-size) {
		return api.Value{}, 0, false
	}
	end := size + int(length)
	// A clone, so that a short text does not hold all the bytes that it was read from.
	v := api.Value{Kind: kind, S: strings.Clone(s[size:end])}
	return v, end, value.Check(v) == api.OK
}
