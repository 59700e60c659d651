package vacuum

import (
	"math/big"

	"vellum/api"
)

// whole is how many thousandths make one.
const whole = 1000

// Due is the tables that have more dead versions than may be.
func Due(l []api.Waste, base, thousandths int) ([]int, api.Errno) {
	if base < 0 || thousandths < 0 {
		return nil, api.ErrArg
	}
	var due []int
	for place, w := range l {
		may := product(whole, base)
		may.Add(may, product(w.Live, thousandths))
		if product(whole, w.Dead).Cmp(may) > 0 {
			due = append(due, place)
		}
	}
	return due, api.OK
}

// product is exact, where that of ints would wrap round.
func product(a, b int) *big.Int {
	return new(big.Int).Mul(big.NewInt(int64(a)), big.NewInt(int64(b)))
}
