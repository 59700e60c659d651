package value_test

import (
	"testing"

	"vellum/api"
	"vellum/lit"
	"vellum/value"
)

// Va7: the order is total: two values stand to one another both ways alike, and of three there is no round; Same ones are at the same place.
func TestOrderIsTotal(t *testing.T) {
	values := all()
	for _, a := range values {
		for _, b := range values {
			ab := value.Compare(a, b)
			if ab != -value.Compare(b, a) || ab < -1 || ab > 1 {
				t.Fatalf("Compare(%v, %v) = %d, and the other way not its opposite", shown(a), shown(b), ab)
			}
			if value.Same(a, b) && ab != 0 {
				t.Fatalf("%v and %v are Same and not at the same place", shown(a), shown(b))
			}
			for _, c := range values {
				bc, ac := value.Compare(b, c), value.Compare(a, c)
				if ab <= 0 && bc <= 0 && (ac > 0 || ac == 0 && (ab < 0 || bc < 0)) {
					t.Fatalf("a round: %v, %v, %v", shown(a), shown(b), shown(c))
				}
			}
		}
	}
}

// Va7, P1, P9: Parse of Text is the value, but of a NaN the one of Plain.
func TestParseOfText(t *testing.T) {
	values := good()
	for _, f := range floats(10000) {
		values = append(values, lit.Float(f))
	}
	for _, v := range values {
		want := v
		if v.Kind == api.KindFloat && v.F != v.F {
			want = value.Plain(v)
		}
		s, e := value.Text(v)
		if e != api.OK {
			t.Fatalf("Text(%v) = %d", shown(v), e)
		}
		checkParse(t, s, want)
	}
}

// Va7: Numbers agrees with Compare on two ints and on two floats, and is an order of all numbers.
func TestNumbersAgree(t *testing.T) {
	var numbers []api.Value
	for _, v := range all() {
		if v.Kind == api.KindInt || v.Kind == api.KindFloat {
			numbers = append(numbers, v)
		}
	}
	for _, a := range numbers {
		for _, b := range numbers {
			ab, ok := value.Numbers(a, b)
			if !ok || a.Kind == b.Kind && ab != value.Compare(a, b) {
				t.Fatalf("Numbers(%v, %v) = %d, %v, Compare = %d", shown(a), shown(b), ab, ok, value.Compare(a, b))
			}
			for _, c := range numbers {
				bc, _ := value.Numbers(b, c)
				ac, _ := value.Numbers(a, c)
				if ab <= 0 && bc <= 0 && (ac > 0 || ac == 0 && (ab < 0 || bc < 0)) {
					t.Fatalf("a round: %v, %v, %v", shown(a), shown(b), shown(c))
				}
			}
		}
	}
}

// Va7: Plain does not change the place, and twice is once.
func TestPlainKeepsPlace(t *testing.T) {
	for _, v := range all() {
		p := value.Plain(v)
		if value.Compare(v, p) != 0 {
			t.Errorf("Plain(%v) = %v is at another place", shown(v), shown(p))
		}
		if !identical(value.Plain(p), p) {
			t.Errorf("Plain of Plain(%v) is not Plain of it", shown(v))
		}
	}
}

// Va3: a cast answers a value that may be, of the kind that was asked for, or null.
func TestCastsMayBe(t *testing.T) {
	for _, v := range good() {
		for kind := api.KindNull; kind <= api.KindBytes; kind++ {
			c, e := value.Cast(v, kind)
			if e != api.OK {
				continue
			}
			if value.Check(c) != api.OK || c.Kind != kind && v.Kind != api.KindNull {
				t.Errorf("Cast(%v, %d) = %v", shown(v), kind, shown(c))
			}
		}
	}
}
