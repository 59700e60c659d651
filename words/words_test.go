package words_test

import (
	"slices"
	"strings"
	"testing"

	"vellum/words"
)

func TestKept(t *testing.T) {
	for _, s := range []string{"and", "unique", "text", "abort", "with", "savepoint"} {
		if !words.Kept(s) || words.Fits(s) {
			t.Errorf("%q is kept: %v, fits: %v; want true, false", s, words.Kept(s), words.Fits(s))
		}
	}
	for _, s := range []string{"", "a", "AND", "And", "ands", "an", " and", "and ", "and_", "_and", "as asc", "order by"} {
		if words.Kept(s) {
			t.Errorf("%q is kept", s)
		}
	}
}

// TestFits: each byte at the first place, and at a later one.
func TestFits(t *testing.T) {
	for b := range 256 {
		c := string([]byte{byte(b)})
		letter := strings.Contains("abcdefghijklmnopqrstuvwxyzABCDEFGHIJKLMNOPQRSTUVWXYZ_", c)
		digit := strings.Contains("0123456789", c)
		if words.Fits(c) != letter || words.Fits(c+"q") != letter {
			t.Errorf("%q first: fits %v, want %v", c, words.Fits(c), letter)
		}
		if words.Fits("q"+c) != (letter || digit) || words.Fits("q"+c+"q") != (letter || digit) {
			t.Errorf("%q behind a letter: fits %v, want %v", c, words.Fits("q"+c), letter || digit)
		}
	}
	for s, want := range map[string]bool{"": false, strings.Repeat("a", 100): true, "é": false, "_1": true, "Int": true, "int": false, "a b": false} {
		if words.Fits(s) != want {
			t.Errorf("%q fits: %v, want %v", s, !want, want)
		}
	}
}

func TestRun(t *testing.T) {
	for _, c := range []struct {
		s, others string
		want      int
	}{
		{"", "", 0}, {"", "_", 0}, {"azAZ09", "", 6}, {"a_b", "", 1}, {"a_b", "_", 3}, {"_", "_", 1},
		{"1.5e+10,", "_.+-", 7}, {"1.5e+10,", "_.", 4}, {"(a", "_", 0}, {"a(", "(", 2}, {"a\x00", "", 1}, {"aé", "_", 1}, {" a", "_", 0},
		{"`", "", 0}, {"{", "", 0}, {"@", "", 0}, {"[", "", 0}, {"/", "", 0}, {":", "", 0},
	} {
		if n := words.Run(c.s, c.others); n != c.want {
			t.Errorf("Run(%q, %q) = %d, want %d", c.s, c.others, n, c.want)
		}
	}
}

func word(s string) int { return words.Run(s, "_") }

// sign knows a sign of one byte, and one of two that begins with it.
func sign(s string) int {
	switch {
	case strings.HasPrefix(s, "<="):
		return 2
	case s[0] == '<' || s[0] == '(':
		return 1
	}
	return 0
}

func TestSplit(t *testing.T) {
	for s, want := range map[string][]string{
		"":                    {},
		" \t\n\r":             {},
		"a":                   {"a"},
		"  a\tb\nc\rd  ":      {"a", "b", "c", "d"},
		"a<b":                 {"a", "<", "b"},
		"a<=b":                {"a", "<=", "b"},
		"a< =":                nil,
		"(((":                 {"(", "(", "("},
		"<=<":                 {"<=", "<"},
		"''":                  {"''"},
		"'a'":                 {"'a'"},
		"'a''b'":              {"'a''b'"},
		"''''":                {"''''"},
		"'it''s ( <= \n' b":   {"'it''s ( <= \n'", "b"},
		"'a' 'b'":             {"'a'", "'b'"},
		"'a'<'b'":             {"'a'", "<", "'b'"},
		"'\xff\x00é'":         {"'\xff\x00é'"},
		"x'00'":               {"x'00'"},
		"x''":                 {"x''"},
		"<x'0g'(":             {"<", "x'0g'", "("},
		"x 'a'":               {"x", "'a'"},
		"x":                   {"x"},
		"x1 <x":               {"x1", "<", "x"},
		"a'b'":                nil,
		"'b'a":                nil,
		"'b'x'00'":            nil,
		"ax'00'":              nil,
		"X'00'":               nil,
		"x'00'1":              nil,
		"xx'00'":              nil,
		"'":                   nil,
		"'a":                  nil,
		"'a''":                nil,
		"'''":                 nil,
		"x'":                  nil,
		"x'00":                nil,
		"a.b":                 nil,
		"a;":                  nil,
		"é":                   nil,
		"a\x00":               nil,
		"a\vb":                nil,
		"a\fb":                nil,
		"a\u00a0b":            nil,
		"( " + "'a'" + "\r\n": {"(", "'a'"},
	} {
		got, ok := words.Split(s, word, sign)
		if ok != (want != nil) || !slices.Equal(got, want) {
			t.Errorf("Split(%q) = %q, %v, want %q", s, got, ok, want)
		}
	}
}
