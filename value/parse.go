package value

import (
	"strconv"
	"strings"

	"vellum/api"
	"vellum/lit"
)

// Parse is the value of a text.
func Parse(s string) (api.Value, api.Errno) {
	if len(s) > api.MaxText {
		return api.Value{}, api.ErrLong
	}
	v, ok := literal(s)
	if !ok || Check(v) != api.OK {
		return api.Value{}, api.ErrLiteral
	}
	return v, api.OK
}

func literal(s string) (api.Value, bool) {
	switch s {
	case nullText:
		return api.Value{}, true
	case trueText, falseText:
		return lit.Bool(s == trueText), true
	case nanText:
		return lit.Float(plainNaN()), true
	case infinityText:
		return lit.Float(infinity()), true
	case "-" + infinityText:
		return lit.Float(withSign(infinity())), true
	}
	if body, ok := between(s, quote); ok {
		text, ok := unquoted(body)
		return lit.Text(text), ok
	}
	if body, ok := between(s, bytesQuote); ok {
		bytes, ok := unhexed(body)
		return lit.Bytes(bytes), ok
	}
	return number(s)
}

// between is what stands between an opening and the closing apostrophe.
func between(s, open string) (string, bool) {
	body, ok := strings.CutPrefix(s, open)
	if !ok {
		return "", false
	}
	return strings.CutSuffix(body, quote)
}

// unquoted is a text whose apostrophes stand twice each.
func unquoted(body string) (string, bool) {
	out := make([]byte, 0, len(body))
	for i := 0; i < len(body); i++ {
		if body[i] == quote[0] {
			i++
			if i == len(body) || body[i] != quote[0] {
				return "", false
			}
		}
		out = append(out, body[i])
	}
	return string(out), true
}

func unhexed(body string) (string, bool) {
	if len(body)%2 != 0 {
		return "", false
	}
	out := make([]byte, 0, len(body)/2)
	for i := 0; i < len(body); i += 2 {
		high := strings.IndexByte(hexDigits, body[i])
		low := strings.IndexByte(hexDigits, body[i+1])
		if high < 0 || low < 0 {
			return "", false
		}
		out = append(out, byte(high<<4|low))
	}
	return string(out), true
}

// number is an int, or, with a point or an exponent, a float.
func number(s string) (api.Value, bool) {
	unsigned, signed := strings.CutPrefix(s, "-")
	whole, rest := leadingDigits(unsigned)
	if whole == "" || len(whole) > 1 && whole[0] == '0' {
		return api.Value{}, false
	}
	if rest == "" {
		n, err := strconv.ParseInt(s, 10, 64)
		return lit.Int(n), err == nil && s != "-0"
	}
	fraction, rest, ok := fractionOf(rest)
	if !ok {
		return api.Value{}, false
	}
	exponent, ok := exponentOf(rest)
	if !ok {
		return api.Value{}, false
	}
	f, ok := nearest(whole+fraction, exponent-len(fraction))
	if signed {
		f = withSign(f)
	}
	return lit.Float(f), ok
}

func leadingDigits(s string) (digits, rest string) {
	n := 0
	for n < len(s) && '0' <= s[n] && s[n] <= '9' {
		n++
	}
	return s[:n], s[n:]
}

// fractionOf is the digits behind a point, if s begins with one; false: a point stands alone.
func fractionOf(s string) (digits, rest string, ok bool) {
	behind, there := strings.CutPrefix(s, ".")
	if !there {
		return "", s, true
	}
	digits, rest = leadingDigits(behind)
	return digits, rest, digits != ""
}

// farExponent is as good as any greater exponent: no literal has digits enough to bring a number back from there.
const farExponent = 1 << 24

// exponentOf is the exponent that s is (0, if s is empty), but at most farExponent either way.
func exponentOf(s string) (int, bool) {
	if s == "" {
		return 0, true
	}
	behind, ok := strings.CutPrefix(s, "e")
	if !ok {
		return 0, false
	}
	unsigned, signed := strings.CutPrefix(behind, "-")
	if !signed {
		unsigned = strings.TrimPrefix(behind, "+")
	}
	digits, rest := leadingDigits(unsigned)
	n := 0
	for i := range len(digits) {
		n = min(10*n+int(digits[i]-'0'), farExponent)
	}
	if signed {
		n = -n
	}
	return n, digits != "" && rest == ""
}

// The decimal places beyond which each number is too great for a float, or nearer to 0 than to any other one.
const (
	highestPlace = 310
	lowestPlace  = -330
)

// nearest is the float nearest to the digits, as an int, times 10 to the power of the exponent; false: no finite one.
// The first digit other than 0 is brought behind the point, since ParseFloat reads an exponent of more than five digits wrongly.
func nearest(digits string, exponent int) (float64, bool) {
	digits = strings.TrimLeft(digits, "0")
	place := len(digits) + exponent
	switch {
	case digits == "" || place < lowestPlace:
		return 0, true
	case place > highestPlace:
		return 0, false
	}
	f, err := strconv.ParseFloat("0."+digits+"e"+strconv.Itoa(place), 64)
	return f, err == nil
}
