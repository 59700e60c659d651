package vacuum_test

import (
	"fmt"
	"math"
	"runtime"
	"testing"

	"vellum/api"
	"vellum/vacuum"
)

// soil writes into all of a list's memory, with the room behind its end.
func soil[T any](l []T, with T) {
	l = l[:cap(l)]
	for i := range l {
		l[i] = with
	}
}

// R3: what is handed in is neither changed nor kept, nor what lies behind its end.
func TestArgumentsAreNotChanged(t *testing.T) {
	l := []api.Waste{{Live: 1, Dead: 5}, {Live: 9, Dead: 7}, {Versions: 3}, {Dead: 1 << 62}}[:2]
	was := fmt.Sprint(l[:cap(l)])
	got, err := vacuum.Due(l, 0, 1000)
	wants(t, "Due", fmt.Sprint(got, err), "[0] 0")
	soil(got, 77)
	wants(t, "what was handed in", fmt.Sprint(l[:cap(l)]), was)
	again, _ := vacuum.Due(l, 0, 1000)
	wants(t, "Due", fmt.Sprint(again), "[0]")
	soil(l, api.Waste{})
	wants(t, "what was told", fmt.Sprint(again), "[0]")
}

// R3: what is told shares no memory with what is told again, nor with the database.
func TestAnswersAreNew(t *testing.T) {
	d := thrice(t)
	var readers []int
	for stamp := range uint64(4) {
		readers = append(readers, beginAt(t, d, stamp), beginAt(t, d, 1))
	}
	was := state(t, d)
	for range 3 {
		l, err := vacuum.Look(d)
		wants(t, "Look", fmt.Sprintf("%+v %d", l, err), "[{Live:1 Versions:3 Dead:0 Rows:0 Entries:0}] 0")
		soil(l, api.Waste{Live: 66})
		who, err := vacuum.Holders(d)
		wants(t, "Holders", fmt.Sprint(who, err), fmt.Sprint(readers[:1], 0))
		soil(who, 66)
		who, err = vacuum.Old(d, 0)
		wants(t, "Old", fmt.Sprint(who, err), fmt.Sprint(readers, 0))
		soil(who, 66)
	}
	wants(t, "the state", state(t, d), was)
	who, _, err := vacuum.Clear(d, 2)
	wants(t, "Clear", fmt.Sprint(who, err), fmt.Sprint([]int{readers[0], readers[1], readers[2], readers[3], readers[5], readers[7]}, 0))
	soil(who, 66)
	wants(t, "who is active", fmt.Sprint(d.Active()), fmt.Sprint([]int{readers[4], readers[6]}))
}

// R4: databases know nothing of one another.
func TestDatabasesAreApart(t *testing.T) {
	a, b := thrice(t), thrice(t)
	x, y := beginAt(t, a, 1), beginAt(t, b, 2)
	looks(t, a, api.Waste{Live: 1, Versions: 3})
	looks(t, b, api.Waste{Live: 1, Versions: 3, Dead: 1, Entries: 1})
	clears(t, a, 2, api.Pruned{Versions: 2, Entries: 2}, x)
	holders(t, b, y)
	looks(t, b, api.Waste{Live: 1, Versions: 3, Dead: 1, Entries: 1})
}

// inUse is how many bytes are held.
func inUse() int64 {
	runtime.GC()
	var m runtime.MemStats
	runtime.ReadMemStats(&m)
	return int64(m.HeapAlloc)
}

// Nothing is kept of what was asked, nor of what was taken.
func TestNothingIsKept(t *testing.T) {
	d := thrice(t)
	before := inUse()
	for n := range 4000 {
		x := begin(t, d, snapshot)
		done(t, d, func(x int) { updates(t, d, x, 1, 1, n+9) })
		for _, err := range func() []api.Errno {
			_, look := vacuum.Look(d)
			_, hold := vacuum.Holders(d)
			_, old := vacuum.Old(d, 0)
			_, run := vacuum.Run(d)
			who, _, clear := vacuum.Clear(d, 1)
			wants(t, "who was cleared", fmt.Sprint(who), fmt.Sprint([]int{x}))
			return []api.Errno{look, hold, old, run, clear}
		}() {
			wants(t, "a call", err, api.OK)
		}
	}
	if grown := inUse() - before; grown > 1<<20 {
		t.Fatalf("it keeps %d bytes", grown)
	}
	runtime.KeepAlive(d)
}

// R1: whatever it is given, each call ends.
func TestWildArguments(t *testing.T) {
	ints := []int{math.MinInt, -1, 0, 1, 1000, math.MaxInt}
	var l []api.Waste
	for _, a := range ints {
		for _, b := range ints {
			l = append(l, api.Waste{Live: a, Dead: b, Versions: b, Rows: a, Entries: b})
		}
	}
	for _, base := range ints {
		for _, thousandths := range ints {
			got, err := vacuum.Due(l, base, thousandths)
			if (err == api.ErrArg) != (base < 0 || thousandths < 0) || err != api.OK && len(got) > 0 {
				t.Fatalf("Due with %d, %d: %v, error %d", base, thousandths, got, err)
			}
		}
	}
	for _, age := range []uint64{0, 1, 2, 1 << 62, 1<<62 + 1, 1 << 63, math.MaxUint64} {
		d := thrice(t)
		beginAt(t, d, 0)
		_, err := vacuum.Old(d, age)
		wants(t, "Old", err, api.OK)
		_, _, err = vacuum.Clear(d, age)
		wants(t, "Clear", err == api.ErrArg, age == 0)
	}
}
