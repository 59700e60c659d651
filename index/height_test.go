package index

import (
	"testing"

	"vellum/api"
	"vellum/code"
	"vellum/lit"
)

// Of all kinds of keys about a quarter of those on a level stands on the next one: so nothing is gone through one by one.
func TestHeights(t *testing.T) {
	const many = 1 << 14
	for what, list := range map[string]func(n int64) []api.Value{
		"ints":               func(n int64) []api.Value { return []api.Value{lit.Int(n)} },
		"ints twice":         func(n int64) []api.Value { return []api.Value{lit.Int(n), lit.Int(n)} },
		"ints behind a null": func(n int64) []api.Value { return []api.Value{lit.Null(), lit.Int(-n)} },
		"ints beside bools":  func(n int64) []api.Value { return []api.Value{lit.Bool(n%2 == 0), lit.Int(n)} },
		"great ints thrice": func(n int64) []api.Value {
			return []api.Value{lit.Int(n << 40), lit.Int(n << 40), lit.Int(n << 40)}
		},
		"floats":      func(n int64) []api.Value { return []api.Value{lit.Float(float64(n))} },
		"texts twice": func(n int64) []api.Value { return []api.Value{lit.Text(string(rune(n))), lit.Text(string(rune(n)))} },
	} {
		var above [api.MaxHeight + 1]int
		for n := range int64(many) {
			key, err := code.Encode(list(n))
			if err != api.OK {
				t.Fatalf("Encode of %s: error %d", what, err)
			}
			for level := 1; level <= height(key); level++ {
				above[level]++
			}
		}
		for level := 2; level <= 4; level++ {
			if want := above[level-1] / 4; above[level] < want/2 || above[level] > want*2 {
				t.Errorf("%s: of %d on level %d there are %d on the next one", what, above[level-1], level-1, above[level])
			}
		}
	}
	if h := height(""); h < 1 || h > api.MaxHeight {
		t.Errorf("the height of the empty key: %d", h)
	}
}
