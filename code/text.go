package code

import (
	"vellum/api"
	"vellum/value"
)

// No tag is textZero, so that behind a 0 byte it tells that a text goes on.
const (
	textEnd  = 0x00
	textZero = 0xFF
)

func appendString(key []byte, s string) []byte {
	for i := range len(s) {
		key = append(key, s[i])
		if s[i] == textEnd {
			key = append(key, textZero)
		}
	}
	return append(key, textEnd)
}

func readString(s string, kind int) (api.Value, int, bool) {
	var read []byte
	for i := 0; i < len(s); i++ {
		if s[i] == textEnd {
			if i+1 == len(s) || s[i+1] != textZero {
				v := api.Value{Kind: kind, S: string(read)}
				return checked(v, i+1)
			}
			i++
			read = append(read, 0)
			continue
		}
		read = append(read, s[i])
	}
	return api.Value{}, 0, false
}

// checked lets a value through that may be: a text is not just any bytes.
func checked(v api.Value, size int) (api.Value, int, bool) {
	if value.Check(v) != api.OK {
		return api.Value{}, 0, false
	}
	return v, size, true
}
