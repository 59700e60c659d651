package value

import (
	"strconv"
	"strings"

	"vellum/api"
)

const (
	nullText     = "null"
	trueText     = "true"
	falseText    = "false"
	nanText      = "NaN"
	infinityText = "Infinity"
	quote        = "'"
	bytesQuote   = "x'"
	hexDigits    = "0123456789abcdef"
)

// Text is a value's text.
func Text(v api.Value) (string, api.Errno) {
	if err := Check(v); err != api.OK {
		return "", err
	}
	return textFrom(v), api.OK
}

// textFrom is the text of a value that may be.
func textFrom(v api.Value) string {
	switch v.Kind {
	case api.KindBool:
		return boolText(v.N)
	case api.KindInt:
		return strconv.FormatInt(v.N, 10)
	case api.KindFloat:
		return floatText(v.F)
	case api.KindText:
		return quote + strings.ReplaceAll(v.S, quote, quote+quote) + quote
	case api.KindBytes:
		return bytesText(v.S)
	}
	return nullText
}

func boolText(n int64) string {
	if n == 1 {
		return trueText
	}
	return falseText
}

func floatText(f float64) string {
	switch {
	case isNaN(f):
		return nanText
	case isInfinite(f) && isSigned(f):
		return "-" + infinityText
	case isInfinite(f):
		return infinityText
	}
	return strconv.FormatFloat(f, 'e', -1, 64)
}

func bytesText(s string) string {
	out := make([]byte, 0, len(bytesQuote)+2*len(s)+len(quote))
	out = append(out, bytesQuote...)
	for i := range len(s) {
		out = append(out, hexDigits[s[i]>>4], hexDigits[s[i]&15])
	}
	return string(append(out, quote...))
}
