package pred_test

import (
	"math"
	"slices"
	"strconv"
	"strings"
	"testing"

	"vellum/api"
	"vellum/code"
	"vellum/lit"
	"vellum/pred"
	"vellum/value"
)

func key(l ...api.Value) string {
	k, _ := code.Encode(l)
	return k
}

const behind = "\xff"

// ends is a range that can be told.
func ends(r api.Range) []string {
	if r.Open {
		return []string{r.Lo}
	}
	return []string{r.Lo, r.Hi}
}

func checkBounds(t *testing.T, e api.Expr, columns []int, want api.Range) {
	t.Helper()
	if r, err := pred.Bounds(table(), e, columns); err != api.OK || r != want {
		t.Errorf("Bounds(%s, %v) = %+q, %d, want %+q", show(e), columns, ends(r), err, ends(want))
	}
}

func allOf(parts ...api.Expr) api.Expr {
	e := parts[0]
	for _, p := range parts[1:] {
		e = bin(e, "and", p)
	}
	return e
}

// Pr4: one column, each comparison, either way round.
func TestBoundsOfOne(t *testing.T) {
	five := lit.Int(5)
	nulls := key(lit.Null()) + behind
	for op, want := range map[string]api.Range{
		"=":  {Lo: key(five), Hi: key(five) + behind},
		"<":  {Lo: nulls, Hi: key(five)},
		"<=": {Lo: nulls, Hi: key(five) + behind},
		">":  {Lo: key(five) + behind, Hi: behind},
		">=": {Lo: key(five), Hi: behind},
		"<>": {Hi: behind},
	} {
		checkBounds(t, bin(col(colA), op, num(5)), []int{colA}, want)
		checkBounds(t, bin(num(5), map[string]string{"=": "=", "<": ">", "<=": ">=", ">": "<", ">=": "<=", "<>": "<>"}[op], col(colA)), []int{colA}, want)
	}
}

// Pr4: what does not count.
func TestBoundsOfNothing(t *testing.T) {
	a, five := col(colA), num(5)
	all := api.Range{Hi: behind}
	for _, e := range []api.Expr{
		truth(true), truth(false), null(), col(colD), un("not", bin(a, "=", five)), bin(bin(a, "=", five), "or", truth(false)), bin(bin(a, "=", five), "or", bin(a, "=", five)),
		in(a, five), un("is null", a), bin(a, "=", flo(5)), bin(a, "<", flo(5)), bin(a, "=", null()), bin(null(), "<", a), bin(a, "=", un("-", five)), bin(a, "=", bin(five, "+", num(0))), bin(bin(a, "+", num(0)), "=", five), bin(a, "=", a), bin(a, "=", col(colK)), bin(five, "=", five), bin(a, "<>", five),
		bin(bin(a, "=", five), "=", truth(true)), un("not", un("not", bin(a, "=", five))), bin(col(colB), "=", five), bin(col(colC), "=", val(lit.Text("x"))), in(truth(true), bin(a, "=", five)),
	} {
		checkBounds(t, e, []int{colA}, all)
		checkBounds(t, bin(e, "and", truth(true)), []int{colA, colK}, all)
	}
	checkBounds(t, bin(truth(true), "and", bin(truth(true), "and", bin(a, "=", five))), []int{colA}, api.Range{Lo: key(lit.Int(5)), Hi: key(lit.Int(5)) + behind})
}

// Pr4: fixed columns, as long as there are some; then the ends of the next one.
func TestBoundsOfMany(t *testing.T) {
	a, b, c, k := col(colA), col(colB), col(colC), col(colK)
	one, two, x := lit.Int(1), lit.Int(2), lit.Text("x")
	fixA, fixK, fixC := bin(a, "=", val(one)), bin(val(two), "=", k), bin(c, "=", val(x))
	nothing := lit.Null()
	for _, it := range []struct {
		e       api.Expr
		columns []int
		want    api.Range
	}{
		{allOf(fixA, fixK), []int{colA, colK}, api.Range{Lo: key(one, two), Hi: key(one, two) + behind}},
		{allOf(fixA, fixK), []int{colK, colA}, api.Range{Lo: key(two, one), Hi: key(two, one) + behind}},
		{allOf(fixA, fixK), []int{colA}, api.Range{Lo: key(one), Hi: key(one) + behind}},
		{allOf(fixA, fixK), []int{colA, colC, colK}, api.Range{Lo: key(one), Hi: key(one) + behind}},
		{allOf(fixA, fixK), []int{colC, colA, colK}, api.Range{Hi: behind}},
		{allOf(fixC, fixA, bin(b, "<", flo(2)), fixK), []int{colA, colC, colB, colK}, api.Range{Lo: key(one, x, nothing) + behind, Hi: key(one, x, lit.Float(2))}},
		{allOf(fixA, bin(b, ">=", flo(1)), bin(b, "<=", flo(2))), []int{colA, colB}, api.Range{Lo: key(one, lit.Float(1)), Hi: key(one, lit.Float(2)) + behind}},
		{allOf(fixA, bin(b, ">", flo(1))), []int{colA, colB, colC}, api.Range{Lo: key(one, lit.Float(1)) + behind, Hi: key(one) + behind}},
		{allOf(bin(a, ">", val(one)), bin(k, "=", val(two))), []int{colA, colK}, api.Range{Lo: key(one) + behind, Hi: behind}},
		{allOf(fixA, bin(a, "=", val(two))), []int{colA}, api.Range{Lo: key(one), Hi: key(one) + behind}},
		{allOf(bin(a, "=", val(two)), fixA), []int{colA}, api.Range{Lo: key(two), Hi: key(two) + behind}},
		{allOf(bin(a, ">", num(9)), fixA, bin(a, "<", num(0))), []int{colA}, api.Range{Lo: key(one), Hi: key(one) + behind}},
	} {
		checkBounds(t, it.e, it.columns, it.want)
	}
}

// Pr4: the greatest lower end, and the least upper one; of the same value the one that leaves it out.
func TestBoundsOfEnds(t *testing.T) {
	a := col(colA)
	low := func(op string, n int64) api.Expr { return bin(a, op, num(n)) }
	one, two, three := key(lit.Int(1)), key(lit.Int(2)), key(lit.Int(3))
	nothing := key(lit.Null()) + behind
	for _, it := range []struct {
		parts []api.Expr
		want  api.Range
	}{
		{[]api.Expr{low(">", 1), low(">", 2)}, api.Range{Lo: two + behind, Hi: behind}},
		{[]api.Expr{low(">", 1), low(">=", 2)}, api.Range{Lo: two, Hi: behind}},
		{[]api.Expr{low(">=", 2), low(">", 2)}, api.Range{Lo: two + behind, Hi: behind}},
		{[]api.Expr{low("<", 3), low("<", 2)}, api.Range{Lo: nothing, Hi: two}},
		{[]api.Expr{low("<", 3), low("<=", 2)}, api.Range{Lo: nothing, Hi: two + behind}},
		{[]api.Expr{low("<=", 2), low("<", 2)}, api.Range{Lo: nothing, Hi: two}},
		{[]api.Expr{low(">", 1), low("<", 3)}, api.Range{Lo: one + behind, Hi: three}},
		{[]api.Expr{low(">=", 1), low("<=", 1)}, api.Range{Lo: one, Hi: one + behind}},
		{[]api.Expr{low(">", 1), low("<=", 1)}, api.Range{}},
		{[]api.Expr{low(">=", 1), low("<", 1)}, api.Range{}},
		{[]api.Expr{low(">", 3), low("<", 1)}, api.Range{}},
		{[]api.Expr{low(">", 1), bin(num(2), "<=", a), low("<=", 3), bin(num(3), ">", a)}, api.Range{Lo: two, Hi: three}},
	} {
		backward := slices.Clone(it.parts)
		slices.Reverse(backward)
		checkBounds(t, allOf(it.parts...), []int{colA}, it.want)
		checkBounds(t, allOf(backward...), []int{colA}, it.want)
	}
	minus := val(lit.Bits(negativeZero))
	for _, parts := range [][]api.Expr{{bin(col(colB), ">=", flo(0)), bin(col(colB), ">", minus)}, {bin(col(colB), ">", flo(0)), bin(col(colB), ">=", minus)}} {
		checkBounds(t, allOf(parts...), []int{colB}, api.Range{Lo: key(lit.Float(0)) + behind, Hi: behind})
	}
	checkBounds(t, bin(col(colB), "<", flo(math.NaN())), []int{colB}, api.Range{Lo: nothing, Hi: key(lit.Bits(plainNaN))})
}

// Pr4: if layer 2 refuses a key: all keys.
func TestBoundsOfLongKeys(t *testing.T) {
	all := api.Range{Open: true}
	fits, long := val(lit.Text(strings.Repeat("a", api.MaxKey-2))), val(lit.Text(strings.Repeat("a", api.MaxKey-1)))
	c, a := col(colC), col(colA)
	whole := key(fits.Value)
	checkBounds(t, bin(c, "=", fits), []int{colC}, api.Range{Lo: whole, Hi: whole + behind})
	checkBounds(t, bin(c, "<", fits), []int{colC}, api.Range{Lo: key(lit.Null()) + behind, Hi: whole})
	for _, op := range []string{"=", "<", "<=", ">", ">="} {
		checkBounds(t, bin(c, op, long), []int{colC}, all)
		checkBounds(t, allOf(bin(a, "=", num(1)), bin(c, op, fits)), []int{colA, colC}, all)
	}
	checkBounds(t, allOf(bin(c, ">", val(lit.Text("a"))), bin(c, "<", long)), []int{colC}, all)
	checkBounds(t, allOf(bin(c, ">", long), bin(c, "<", val(lit.Text("a")))), []int{colC}, all)
	checkBounds(t, allOf(bin(c, "=", fits), bin(a, "<", num(1))), []int{colC, colA}, all)
	checkBounds(t, allOf(bin(c, "=", fits), bin(a, "<>", num(1))), []int{colC, colA}, api.Range{Lo: whole, Hi: whole + behind})
	checkBounds(t, bin(c, "<>", long), []int{colC}, api.Range{Hi: behind})
}

// Pr4: the columns that are asked for, and the errors in their order.
func TestBoundsArguments(t *testing.T) {
	wrong := [][]int{nil, {}, {6}, {-1}, {0, 0}, {0, 1, 0}, {0, 6}, {math.MaxInt}, {math.MinInt}, make([]int, 65), make([]int, 100000)}
	for _, columns := range wrong {
		for e, want := range map[string]api.Errno{"true": api.ErrArg, "null": api.ErrArg, "a = 1": api.ErrArg, "1 / 0 = 1": api.ErrArg, "a": api.ErrType, "1.5": api.ErrType, "c": api.ErrType, "e": api.ErrType} {
			if r, err := pred.Bounds(table(), parsed(t, e), columns); err != want || r != (api.Range{}) {
				t.Errorf("Bounds(%s, %d columns) = %q, %d, want %d", e, len(columns), ends(r), err, want)
			}
		}
	}
	for _, e := range []string{"a", "1 + 1", "c"} {
		if r, err := pred.Bounds(table(), parsed(t, e), []int{0}); err != api.ErrType || r != (api.Range{}) {
			t.Errorf("Bounds(%s) = %q, %d, want ErrType", e, ends(r), err)
		}
	}
	full := api.Table{Name: "t", Key: []int{0}}
	var columns []int
	for i := range api.MaxColumns {
		full.Columns = append(full.Columns, api.Column{Name: "c" + strconv.Itoa(i), Kind: api.KindBool})
		columns = append(columns, i)
	}
	if r, err := pred.Bounds(full, truth(true), columns); err != api.OK || r != (api.Range{Hi: behind}) {
		t.Errorf("Bounds over MaxColumns columns = %q, %d", ends(r), err)
	}
	if r, err := pred.Bounds(full, col(0), append(columns, 0)); err != api.ErrArg || r != (api.Range{}) {
		t.Errorf("Bounds over MaxColumns + 1 columns = %q, %d, want ErrArg", ends(r), err)
	}
}

// plainPart is a part that counts, as the test made it.
type plainPart struct {
	column int
	op     string
	value  api.Value
}

// plainBounds reckons a range anew, byte by byte.
func plainBounds(parts []plainPart, columns []int) api.Range {
	begin := ""
	rest := columns
	for len(rest) > 0 {
		i := slices.IndexFunc(parts, func(p plainPart) bool { return p.column == rest[0] && p.op == "=" })
		if i < 0 {
			break
		}
		begin += key(parts[i].value)
		rest = rest[1:]
	}
	lo, hi := begin, begin+behind
	lower := false
	for _, p := range parts {
		if len(rest) == 0 || p.column != rest[0] {
			continue
		}
		switch p.op {
		case ">":
			lo, lower = max(lo, begin+key(p.value)+behind), true
		case ">=":
			lo, lower = max(lo, begin+key(p.value)), true
		case "<":
			hi = min(hi, begin+key(p.value))
		case "<=":
			hi = min(hi, begin+key(p.value)+behind)
		}
	}
	if hi != begin+behind && !lower {
		lo = begin + key(lit.Null()) + behind
	}
	if lo >= hi {
		return api.Range{}
	}
	return api.Range{Lo: lo, Hi: hi}
}

var roundTurned = map[string]string{"=": "=", "<": ">", ">": "<", "<=": ">=", ">=": "<="}

// parts is some parts, those of them that count, and all joined by and in some shape.
func (m maker) parts() ([]plainPart, api.Expr) {
	var counting []plainPart
	var l []api.Expr
	for range 1 + m.IntN(6) {
		column := m.IntN(len(table().Columns))
		v := pick(m, valuesOf(table().Columns[column].Kind))
		op := pick(m, []string{"=", "=", "<", "<=", ">", ">="})
		switch m.IntN(5) {
		case 0:
			l = append(l, m.expr(api.KindBool, 1))
		case 1, 2:
			l = append(l, bin(val(v), op, col(column)))
			counting = append(counting, plainPart{column, roundTurned[op], v})
		default:
			l = append(l, bin(col(column), op, val(v)))
			counting = append(counting, plainPart{column, op, v})
		}
	}
	for len(l) > 1 {
		i := m.IntN(len(l) - 1)
		l[i] = bin(l[i], "and", l[i+1])
		l = slices.Delete(l, i+1, i+2)
	}
	return counting, l[0]
}

// Pr4: parts at random, joined in any shape, over any columns.
func TestBoundsAtRandom(t *testing.T) {
	m := newMaker(11)
	for range 20000 {
		parts, e := m.parts()
		columns := m.Perm(len(table().Columns))[:1+m.IntN(6)]
		checkBounds(t, e, columns, plainBounds(parts, columns))
	}
}

// Pr4: each row that is taken has its key in the range, with whatever values behind it.
func TestBoundsHoldWhatIsTaken(t *testing.T) {
	m := newMaker(12)
	taken := 0
	for range 15000 {
		row := m.row()
		e := m.expr(api.KindBool, 4)
		if m.IntN(2) == 0 {
			_, e = m.parts()
		}
		if m.IntN(3) != 0 {
			e = m.fitting(row)
		}
		columns := m.Perm(len(table().Columns))[:1+m.IntN(4)]
		r, err := pred.Bounds(table(), e, columns)
		if err != api.OK {
			t.Fatalf("Bounds(%s) = %d", show(e), err)
		}
		if takes, _ := pred.Takes(table(), e, row); !takes {
			continue
		}
		taken++
		var l []api.Value
		for _, column := range columns {
			l = append(l, row[column])
		}
		for range 3 {
			k, err := code.Encode(l)
			if err == api.OK && !code.Has(r, k) {
				t.Errorf("%s takes %v, whose key over %v is not in %q", show(e), row, columns, ends(r))
			}
			l = append(l, pick(m, values()))
		}
	}
	if taken < 3000 {
		t.Errorf("%d rows were taken: too few to tell anything", taken)
	}
}

// fitting is comparisons that a row fits, mostly.
func (m maker) fitting(row []api.Value) api.Expr {
	var l []api.Expr
	for range 1 + m.IntN(4) {
		column := m.IntN(len(row))
		if row[column].Kind == api.KindNull {
			l = append(l, un("is null", col(column)))
			continue
		}
		v := pick(m, append(valuesOf(row[column].Kind), row[column]))
		op := "="
		switch value.Compare(row[column], v) {
		case 1:
			op = pick(m, []string{">", ">="})
		case -1:
			op = pick(m, []string{"<", "<="})
		}
		l = append(l, bin(col(column), op, val(v)))
	}
	return allOf(l...)
}
