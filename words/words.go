// Package words cuts texts into words and signs, and knows which words are no names.
package words

import "strings"

const (
	blanks     = " \t\n\r"
	apostrophe = '\''
)

// Kept tells whether a word has a meaning of its own in some text, so that nothing is named by it.
func Kept(s string) bool {
	switch s {
	case "and", "bool", "bytes", "create", "default", "false", "float", "foreign", "in", "index", "int", "is", "key",
		"not", "null", "or", "primary", "references", "table", "text", "true", "unique":
		return true
	case "abort", "as", "asc", "at", "avg", "begin", "between", "by", "commit", "count", "delete", "desc", "drop",
		"from", "group", "insert", "into", "limit", "max", "min", "of", "order", "release", "rollback", "savepoint",
		"select", "set", "sum", "to", "update", "values", "where", "with":
		return true
	}
	return false
}

// Fits tells whether a word may stand where a text has a name: it is more than a name may be, so that who wrote it is told what is wrong with the name, not with the text.
func Fits(s string) bool {
	return s != "" && !isDigit(s[0]) && Run(s, "_") == len(s) && !Kept(s)
}

// Run is how many bytes at the beginning of s are letters, digits or one of others.
func Run(s, others string) int {
	n := 0
	for n < len(s) && (isLetter(s[n]) || isDigit(s[n]) || strings.IndexByte(others, s[n]) >= 0) {
		n++
	}
	return n
}

// Split is a text's words and signs, in order, without the blanks; false, if it has something else, or no blank between two words.
// The functions tell how many bytes at the beginning of a text are a word, and a sign (0: none is there); the text of a text or of bytes is a word whatever they tell.
func Split(s string, word, sign func(s string) int) ([]string, bool) {
	var pieces []string
	apart := true
	for s != "" {
		if strings.IndexByte(blanks, s[0]) >= 0 {
			s, apart = s[1:], true
			continue
		}
		size := sign(s)
		isSign := size > 0
		if !isSign {
			size = max(quoted(s), word(s))
		}
		if size == 0 || !isSign && !apart {
			return nil, false
		}
		pieces = append(pieces, s[:size])
		s, apart = s[size:], isSign
	}
	return pieces, true
}

// quoted is how many bytes at the beginning of s are the text of a text or of bytes; 0, if none is there, or none that ends.
func quoted(s string) int {
	start := 0
	if s[0] == 'x' {
		start = 1
	}
	if len(s) == start || s[start] != apostrophe {
		return 0
	}
	for i := start + 1; i < len(s); i++ {
		if s[i] != apostrophe {
			continue
		}
		i++
		if i == len(s) || s[i] != apostrophe {
			return i
		}
	}
	return 0
}

func isLetter(b byte) bool {
	return 'a' <= b && b <= 'z' || 'A' <= b && b <= 'Z'
}

func isDigit(b byte) bool {
	return '0' <= b && b <= '9'
}
