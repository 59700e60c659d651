package sets_test

import (
	"fmt"
	"strconv"
	"sync"
	"testing"

	"vellum/api"
	"vellum/sets"
)

// nth is a key of a number, in order.
func nth(n int) string { return fmt.Sprintf("%06d", n) }

// great is a foot as great as may be: the points at the even numbers, spans of one key at every fourth number, and writes at the odd ones; the last one first.
func great() api.Foot {
	var f api.Foot
	for n := 1<<15 - 2; n >= 0; n -= 2 {
		f.Points = append(f.Points, point(n%3, -1, nth(n)))
		f.Writes = append(f.Writes, point(n%3, -1, nth(n+1)), point(n%3, 0, nth(n+1)))
		f.Spans = append(f.Spans, span(n%3, -1, upTo(nth(2*n), nth(2*n)+"\x00")))
	}
	return f
}

// Se1 to Se3: feet as great as may be.
func TestGreatFeet(t *testing.T) {
	f := great()
	wants(t, "the size", len(f.Points)+len(f.Spans)+len(f.Writes), 1<<16)
	n := normed(t, f)
	in := 0
	for _, p := range f.Points {
		// The span of its number stands in the table of half that number.
		k, _ := strconv.Atoi(p.Key)
		if k%4 == 0 && k/2%3 == p.Table {
			in++
		}
	}
	wants(t, "the points", len(n.Points), len(f.Points)-in)
	wants(t, "the spans", len(n.Spans), len(f.Spans))
	wants(t, "the writes", len(n.Writes), len(f.Writes))
	for i := 1; i < len(n.Points); i++ {
		wants(t, "that points stand in order", stands(n.Points[i-1], n.Points[i]), true)
	}
	_, err := sets.Merge(f, writes("x"))
	wants(t, "Merge of one more", err, api.ErrFull)
	wantsFoot(t, "Merge with nothing", merged(t, f, api.Foot{}), n)
	for _, reader := range []api.Foot{f, n} {
		wants(t, "Clash of odd numbers", clash(reader, api.Foot{Writes: f.Writes}), found{})
		wants(t, "Clash of the last point", clash(reader, api.Foot{Writes: append(f.Writes[:len(f.Writes):len(f.Writes)], n.Points[len(n.Points)-1])}), found{n.Points[len(n.Points)-1], true})
		wants(t, "Both of the same", both(reader, f), found{point(0, -1, nth(1)), true})
	}
}

// Se3: feet greater than may be are asked like others, in time that rises but little faster than they do.
func TestFeetBeyondTheLimit(t *testing.T) {
	var reader, writer api.Foot
	most := 1 << 18
	for n := most; n > 0; n-- {
		reader.Points = append(reader.Points, point(0, -1, nth(n)))
		reader.Spans = append(reader.Spans, span(0, 0, upTo(nth(n), nth(n+2))))
		writer.Writes = append(writer.Writes, point(0, 0, nth(n+most)), point(0, -1, nth(n+most)))
	}
	wants(t, "Check", sets.Check(reader), api.ErrFull)
	wants(t, "Reads", sets.Reads(reader, point(0, 0, nth(most+1))), true)
	wants(t, "Clash", clash(reader, writer), found{point(0, 0, nth(most+1)), true})
	wants(t, "Both", both(writer, writer), found{point(0, -1, nth(most+1)), true})
	wants(t, "how many are left", len(sets.Without(reader, 1).Points), most)
	wantsFoot(t, "Without", sets.Without(writer, 0), api.Foot{})
}

// R4: many goroutines that ask of the same feet are told the same.
func TestSideBySide(t *testing.T) {
	w := newWorld(10)
	a, b := w.foot(), w.foot()
	n, m, c := normed(t, a), merged(t, a, b), clash(a, b)
	faults := make(chan string, 8)
	var group sync.WaitGroup
	for range 8 {
		group.Go(func() {
			for range 200 {
				gotN, _ := sets.Norm(a)
				gotM, _ := sets.Merge(a, b)
				if !same(gotN, n) || !same(gotM, m) || clash(a, b) != c {
					faults <- shown(gotN) + ", " + shown(gotM)
					return
				}
			}
		})
	}
	group.Wait()
	close(faults)
	for fault := range faults {
		t.Error(fault)
	}
}
