package cursor

import (
	"math/bits"
	"slices"

	"vellum/api"
	"vellum/lit"
	"vellum/num"
	"vellum/value"
)

// Fold makes one value of some, in their order.
func Fold(what int, l []api.Value) (api.Value, api.Errno) {
	if what < api.FoldCount || what > api.FoldAvg {
		return api.Value{}, api.ErrArg
	}
	for _, v := range l {
		if err := value.Check(v); err != api.OK {
			return api.Value{}, err
		}
	}
	return folded(what, withoutNulls(l))
}

func withoutNulls(l []api.Value) []api.Value {
	return slices.DeleteFunc(slices.Clone(l), func(v api.Value) bool { return v.Kind == api.KindNull })
}

// folded is Fold of values that may be, none of them null.
func folded(what int, l []api.Value) (api.Value, api.Errno) {
	switch {
	case what == api.FoldCount:
		return lit.Int(int64(len(l))), api.OK
	case len(l) == 0:
		return lit.Null(), api.OK
	case what == api.FoldMin:
		return slices.MinFunc(l, value.Compare), api.OK
	case what == api.FoldMax:
		return slices.MaxFunc(l, value.Compare), api.OK
	}
	sum, err := sumOf(l)
	if err != api.OK || what == api.FoldSum {
		return sum, err
	}
	return num.Told(num.Float(sum) / float64(len(l))), api.OK
}

func sumOf(l []api.Value) (api.Value, api.Errno) {
	ints := true
	for _, v := range l {
		if v.Kind != api.KindInt && v.Kind != api.KindFloat {
			return api.Value{}, api.ErrType
		}
		ints = ints && v.Kind == api.KindInt
	}
	if ints {
		return sumOfInts(l)
	}
	return sumOfFloats(l), api.OK
}

// sumOfInts has 128 bits to add in: a sum that is too great for an int on the way need not be so in the end.
func sumOfInts(l []api.Value) (api.Value, api.Errno) {
	var high int64
	var low, carry uint64
	for _, v := range l {
		low, carry = bits.Add64(low, uint64(v.N), 0)
		high += v.N>>63 + int64(carry)
	}
	sum := int64(low)
	if high != sum>>63 {
		return api.Value{}, api.ErrRange
	}
	return lit.Int(sum), api.OK
}

// sumOfFloats begins with the first one, not with 0: the sum of -0 is -0.
func sumOfFloats(l []api.Value) api.Value {
	sum := num.Float(l[0])
	for _, v := range l[1:] {
		sum += num.Float(v)
	}
	return num.Told(sum)
}
