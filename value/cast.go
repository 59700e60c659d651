package value

import (
	"unicode/utf8"

	"vellum/api"
	"vellum/lit"
)

// Cast is a value as one of another kind.
func Cast(v api.Value, kind int) (api.Value, api.Errno) {
	if !isKind(kind) {
		return api.Value{}, api.ErrArg
	}
	if err := Check(v); err != api.OK {
		return api.Value{}, err
	}
	if v.Kind == api.KindNull || v.Kind == kind {
		return v, api.OK
	}
	if c, ok := castTo(v, kind); ok {
		return c, api.OK
	}
	return api.Value{}, api.ErrValue
}

func castTo(v api.Value, kind int) (api.Value, bool) {
	switch kind {
	case api.KindBool:
		return toBool(v)
	case api.KindInt:
		return toInt(v)
	case api.KindFloat:
		return toFloat(v)
	case api.KindText:
		return toText(v)
	case api.KindBytes:
		return lit.Bytes(v.S), v.Kind == api.KindText
	}
	return api.Value{}, false
}

func toBool(v api.Value) (api.Value, bool) {
	switch v.Kind {
	case api.KindInt:
		return lit.Bool(v.N == 1), v.N == 0 || v.N == 1
	case api.KindText:
		return parsedAs(v.S, api.KindBool)
	}
	return api.Value{}, false
}

func toInt(v api.Value) (api.Value, bool) {
	switch v.Kind {
	case api.KindBool:
		return lit.Int(v.N), true
	case api.KindFloat:
		return wholeOf(v.F)
	case api.KindText:
		return parsedAs(v.S, api.KindInt)
	}
	return api.Value{}, false
}

// wholeOf looks at the bounds ahead of converting, since what an int can't hold is converted differently by each machine.
func wholeOf(f float64) (api.Value, bool) {
	if isNaN(f) || f < -1<<63 || f >= 1<<63 {
		return api.Value{}, false
	}
	n := int64(f)
	return lit.Int(n), float64(n) == f
}

func toFloat(v api.Value) (api.Value, bool) {
	switch v.Kind {
	case api.KindBool, api.KindInt:
		return lit.Float(float64(v.N)), true
	case api.KindText:
		if n, ok := parsedAs(v.S, api.KindInt); ok {
			return lit.Float(float64(n.N)), true
		}
		return parsedAs(v.S, api.KindFloat)
	}
	return api.Value{}, false
}

func toText(v api.Value) (api.Value, bool) {
	if v.Kind == api.KindBytes {
		return lit.Text(v.S), utf8.ValidString(v.S)
	}
	return lit.Text(textFrom(v)), true
}

func parsedAs(s string, kind int) (api.Value, bool) {
	v, err := Parse(s)
	return v, err == api.OK && v.Kind == kind
}
