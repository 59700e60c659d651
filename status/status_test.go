package status_test

import (
	"math"
	"runtime"
	"slices"
	"testing"

	"vellum/api"
	"vellum/status"
)

// plain is a table as one caller sees it: the words of the chapter, one by one.
type plain struct {
	last int
	all  map[int]fate
}

type fate struct {
	state int
	stamp uint64
}

func newPlain() *plain { return &plain{all: map[int]fate{}} }

func (p *plain) decided(txn int) bool {
	return p.all[txn].state == 3 || p.all[txn].state == 4
}

func (p *plain) open() []int {
	var l []int
	for txn := range p.all {
		if !p.decided(txn) {
			l = append(l, txn)
		}
	}
	slices.Sort(l)
	return l
}

func (p *plain) begin() (int, api.Errno) {
	if len(p.open()) >= 256 {
		return 0, 2
	}
	p.last++
	p.all[p.last] = fate{state: 1}
	return p.last, 0
}

func (p *plain) prepare(txn int) api.Errno {
	if p.all[txn].state == 0 {
		return 90
	}
	if p.decided(txn) {
		return 91
	}
	p.all[txn] = fate{state: 2}
	return 0
}

func (p *plain) commit(txn int, stamp uint64) api.Errno {
	if p.all[txn].state == 0 {
		return 90
	}
	if p.decided(txn) {
		return 91
	}
	if p.all[txn].state == 1 {
		return 92
	}
	if stamp == 0 || stamp > 1<<62 {
		return 1
	}
	p.all[txn] = fate{3, stamp}
	return 0
}

func (p *plain) abort(txn int) api.Errno {
	if p.all[txn].state == 0 {
		return 90
	}
	if p.decided(txn) {
		return 91
	}
	p.all[txn] = fate{state: 4}
	return 0
}

func (p *plain) forget(txn int) api.Errno {
	if p.all[txn].state == 0 {
		return 90
	}
	if !p.decided(txn) {
		return 92
	}
	delete(p.all, txn)
	return 0
}

// shows holds all that a table tells against the plain one: its open ones, and each state from below the first number to beyond the last.
func shows(t *testing.T, x *status.Table, p *plain) {
	t.Helper()
	if open := x.Open(); !slices.Equal(open, p.open()) {
		t.Fatalf("Open = %v, want %v", open, p.open())
	}
	for txn := -1; txn <= p.last+2; txn++ {
		stateIs(t, x, txn, p.all[txn])
	}
}

// stateIs holds that a transaction has a state; the zero one: that it is not there.
func stateIs(t *testing.T, x *status.Table, txn int, want fate) {
	t.Helper()
	wantErr := api.OK
	if want.state == 0 {
		wantErr = api.ErrTxn
	}
	if state, stamp, err := x.State(txn); state != want.state || stamp != want.stamp || err != wantErr {
		t.Fatalf("State(%d) = %d, %d, %d, want %d, %d, %d", txn, state, stamp, err, want.state, want.stamp, wantErr)
	}
}

func begin(t *testing.T, x *status.Table, want int) {
	t.Helper()
	if txn, err := x.Begin(); txn != want || err != api.OK {
		t.Fatalf("Begin = %d, %d, want %d", txn, err, want)
	}
}

// is holds that a call was told an error, or none.
func is(t *testing.T, call string, err, want api.Errno) {
	t.Helper()
	if err != want {
		t.Fatalf("%s: error %d, want %d", call, err, want)
	}
}

// The stamps that the chapter tells apart, and those near the words by which a state may be kept.
func stamps() []uint64 {
	return []uint64{0, 1, 2, 3, 4, 5, 1 << 32, 1<<62 - 1, 1 << 62, 1<<62 + 1, 1<<62 + 2, 1<<62 + 3, 1 << 63, math.MaxUint64 - 1, math.MaxUint64}
}

// in is a table whose transaction 1 is in a state, with what is told of it.
func in(t *testing.T, state int) (*status.Table, *plain) {
	t.Helper()
	x, p := status.New(), newPlain()
	begin(t, x, 1)
	p.begin()
	if state == api.StatePrepared || state == api.StateCommitted {
		is(t, "Prepare", x.Prepare(1), p.prepare(1))
	}
	if state == api.StateCommitted {
		is(t, "Commit", x.Commit(1, 9), p.commit(1, 9))
	}
	if state == api.StateAborted {
		is(t, "Abort", x.Abort(1), p.abort(1))
	}
	shows(t, x, p)
	return x, p
}

// St1, St2: the chapter's first example.
func TestExample(t *testing.T) {
	x := status.New()
	begin(t, x, 1)
	is(t, "Commit of an active one", x.Commit(1, 5), api.ErrActive)
	is(t, "Prepare", x.Prepare(1), api.OK)
	is(t, "Commit", x.Commit(1, 5), api.OK)
	stateIs(t, x, 1, fate{api.StateCommitted, 5})
	is(t, "Abort", x.Abort(1), api.ErrDecided)
	is(t, "Forget", x.Forget(1), api.OK)
	stateIs(t, x, 1, fate{})
	begin(t, x, 2)
}

// St1: a new table has nothing.
func TestNewHasNone(t *testing.T) {
	x := status.New()
	for _, txn := range []int{math.MinInt, -1, 0, 1, 2, 256, 257, math.MaxInt} {
		stateIs(t, x, txn, fate{})
		is(t, "Prepare", x.Prepare(txn), api.ErrTxn)
		is(t, "Commit", x.Commit(txn, 5), api.ErrTxn)
		is(t, "Abort", x.Abort(txn), api.ErrTxn)
		is(t, "Forget", x.Forget(txn), api.ErrTxn)
	}
	if open := x.Open(); len(open) != 0 {
		t.Errorf("Open = %v", open)
	}
	begin(t, x, 1)
	stateIs(t, x, 1, fate{state: api.StateActive})
}

// St1: numbers go up one by one, and none is given twice: not behind an abort, a commit, a forgetting, nor where all are forgotten.
func TestNumbersGoUp(t *testing.T) {
	x := status.New()
	for n := 1; n <= 3000; n++ {
		begin(t, x, n)
		stateIs(t, x, n, fate{state: api.StateActive})
		if n%3 == 0 {
			x.Prepare(n)
			is(t, "Commit", x.Commit(n, uint64(n)), api.OK)
		} else {
			is(t, "Abort", x.Abort(n), api.OK)
		}
		if n%2 == 0 {
			is(t, "Forget", x.Forget(n), api.OK)
			is(t, "Forget", x.Forget(n-1), api.OK)
		}
		if open := x.Open(); len(open) != 0 {
			t.Fatalf("Open = %v", open)
		}
	}
}

// St1: 256 that are not decided, active or prepared, fill a table; what is refused takes no number. One that is decided, either way, makes room, whether it is forgotten or not.
func TestBeginWhereItIsFull(t *testing.T) {
	x := status.New()
	for n := 1; n <= 256; n++ {
		begin(t, x, n)
		if n%2 == 0 {
			x.Prepare(n)
		}
	}
	for turn, txn := range []int{256, 1, 2, 100, 101, 255, 33} {
		for range 3 {
			if got, err := x.Begin(); got != 0 || err != api.ErrFull {
				t.Fatalf("Begin = %d, %d, want 0, ErrFull", got, err)
			}
		}
		is(t, "Forget", x.Forget(txn), api.ErrActive)
		if txn%2 == 0 {
			is(t, "Commit", x.Commit(txn, 7), api.OK)
		} else {
			is(t, "Abort", x.Abort(txn), api.OK)
		}
		if turn%3 == 0 {
			is(t, "Forget", x.Forget(txn), api.OK)
		}
		begin(t, x, 257+turn)
	}
	if _, err := x.Begin(); err != api.ErrFull || len(x.Open()) != 256 {
		t.Errorf("Begin: %d, %d open, want ErrFull, 256", err, len(x.Open()))
	}
}

// St1: those that are decided and not forgotten take no room: any number of them, all still told.
func TestDecidedOnesTakeNoRoom(t *testing.T) {
	x := status.New()
	for n := 1; n <= 20000; n++ {
		begin(t, x, n)
		x.Prepare(n)
		is(t, "Commit", x.Commit(n, uint64(n)*3), api.OK)
	}
	for n := 20001; n <= 20256; n++ {
		begin(t, x, n)
	}
	if _, err := x.Begin(); err != api.ErrFull {
		t.Errorf("Begin: %d, want ErrFull", err)
	}
	for n := 1; n <= 20000; n++ {
		stateIs(t, x, n, fate{api.StateCommitted, uint64(n) * 3})
	}
	if open := x.Open(); len(open) != 256 || open[0] != 20001 || open[255] != 20256 {
		t.Errorf("Open = %v", open)
	}
}

// St2, Words: each call in each state, with each stamp: what it is told, and the state behind it.
func TestEachCallInEachState(t *testing.T) {
	for state := api.StateActive; state <= api.StateAborted; state++ {
		x, p := in(t, state)
		is(t, "Prepare", x.Prepare(1), p.prepare(1))
		shows(t, x, p)
		is(t, "Prepare again", x.Prepare(1), p.prepare(1))
		shows(t, x, p)
		x, p = in(t, state)
		is(t, "Abort", x.Abort(1), p.abort(1))
		shows(t, x, p)
		is(t, "Abort again", x.Abort(1), p.abort(1))
		shows(t, x, p)
		x, p = in(t, state)
		is(t, "Forget", x.Forget(1), p.forget(1))
		shows(t, x, p)
		is(t, "Forget again", x.Forget(1), p.forget(1))
		shows(t, x, p)
		for _, stamp := range stamps() {
			x, p = in(t, state)
			is(t, "Commit", x.Commit(1, stamp), p.commit(1, stamp))
			shows(t, x, p)
			is(t, "Commit again", x.Commit(1, 77), p.commit(1, 77))
			shows(t, x, p)
		}
	}
}

// St2: every stamp from 1 to 2^62 is told as it was; one may be told of many transactions, and in any order.
func TestStampsOfCommitted(t *testing.T) {
	x := status.New()
	txn := 0
	for bit := range 63 {
		for _, stamp := range []uint64{1<<bit - 1, 1 << bit, 1<<bit + 1, 5} {
			if stamp == 0 || stamp > 1<<62 {
				continue
			}
			txn++
			begin(t, x, txn)
			x.Prepare(txn)
			is(t, "Commit", x.Commit(txn, stamp), api.OK)
			stateIs(t, x, txn, fate{api.StateCommitted, stamp})
			is(t, "Commit", x.Commit(txn, stamp), api.ErrDecided)
		}
	}
}

// St2, R2: of several errors the first one is told: no such transaction, decided, active, and then the stamp.
func TestOrderOfErrors(t *testing.T) {
	for _, stamp := range []uint64{0, 1<<62 + 1, 1<<62 + 2, math.MaxUint64} {
		x := status.New()
		for range 4 {
			x.Begin()
		}
		x.Prepare(2)
		x.Prepare(3)
		x.Commit(3, 8)
		x.Abort(4)
		for txn, want := range []api.Errno{api.ErrTxn, api.ErrActive, api.ErrArg, api.ErrDecided, api.ErrDecided, api.ErrTxn} {
			is(t, "Commit", x.Commit(txn, stamp), want)
		}
		is(t, "Forget", x.Forget(3), api.OK)
		is(t, "Commit of a forgotten one", x.Commit(3, stamp), api.ErrTxn)
		is(t, "Commit of a prepared one", x.Commit(2, 1<<62), api.OK)
	}
}

// St1: numbers that nobody has are told apart from those that somebody has, however near to them in their lower bits.
func TestOtherNumbers(t *testing.T) {
	x := status.New()
	for range 3 {
		x.Begin()
	}
	x.Abort(2)
	for _, txn := range []int{math.MinInt, math.MinInt + 1, -256, -3, -2, -1, 0, 4, 5, 257, 258, 1<<32 + 1, 1<<32 + 2, 1<<62 + 2, math.MaxInt} {
		stateIs(t, x, txn, fate{})
		is(t, "Prepare", x.Prepare(txn), api.ErrTxn)
		is(t, "Commit", x.Commit(txn, 1), api.ErrTxn)
		is(t, "Abort", x.Abort(txn), api.ErrTxn)
		is(t, "Forget", x.Forget(txn), api.ErrTxn)
	}
	shows(t, x, &plain{3, map[int]fate{1: {1, 0}, 2: {4, 0}, 3: {1, 0}}})
}

// both does a call on a transaction on both tables: what each was told.
func both(x *status.Table, p *plain, kind, txn int, stamp uint64) (err, want api.Errno) {
	switch kind {
	case 1:
		return x.Prepare(txn), p.prepare(txn)
	case 2:
		return x.Commit(txn, stamp), p.commit(txn, stamp)
	case 3:
		return x.Abort(txn), p.abort(txn)
	default:
		return x.Forget(txn), p.forget(txn)
	}
}

// step does one of the calls (0: Begin) on both tables, which must tell the same.
func step(t *testing.T, x *status.Table, p *plain, kind, txn int, stamp uint64) {
	t.Helper()
	if kind > 0 {
		if err, want := both(x, p, kind, txn, stamp); err != want {
			t.Fatalf("call of kind %d on %d, stamp %d: error %d, want %d", kind, txn, stamp, err, want)
		}
		return
	}
	got, err := x.Begin()
	if want, wantErr := p.begin(); got != want || err != wantErr {
		t.Fatalf("Begin = %d, %d, want %d, %d", got, err, want, wantErr)
	}
}

// St1, St2: every row of up to seven calls, the first one Begin, on the numbers 1 and 2, told as the plain table tells, and shown so at its end.
func TestAllRowsOfCalls(t *testing.T) {
	const kinds = 9
	for row := range kinds * kinds * kinds * kinds * kinds * kinds {
		x, p := status.New(), newPlain()
		step(t, x, p, 0, 0, 0)
		for n := row; n > 0; n /= kinds {
			if what := n % kinds; what == 0 {
				step(t, x, p, 0, 0, 0)
			} else {
				step(t, x, p, (what+1)/2, 1+what%2, 6)
			}
		}
		shows(t, x, p)
	}
}

// St1, St2: long runs of calls of all kinds, nearly full tables among them, held against the plain table.
func TestRunsAgainstThePlainTable(t *testing.T) {
	for _, kinds := range [][]int{{0, 1, 2, 3, 4}, {0, 0, 0, 0, 1, 1, 2, 2, 3, 4, 4}, {0, 0, 0, 0, 0, 0, 0, 0, 0, 1, 1, 2, 4}} {
		x, p, r := status.New(), newPlain(), uint64(len(kinds))
		for n := range 8000 {
			r = r*6364136223846793005 + 1442695040888963407
			txn := p.last + 2 - int(r>>40%400)
			if open := p.open(); len(open) > 0 && r>>62 == 0 {
				txn = open[r>>40%uint64(len(open))]
			}
			step(t, x, p, kinds[r>>33%uint64(len(kinds))], txn, stamps()[r>>20%15])
			if n%50 == 0 {
				shows(t, x, p)
			}
		}
		shows(t, x, p)
	}
}

// St1: Open is rising in whichever order they are decided, and has no holes of its own.
func TestOpenRises(t *testing.T) {
	x, p := status.New(), newPlain()
	for range 256 {
		step(t, x, p, 0, 0, 0)
	}
	r := uint64(1)
	for range 1000 {
		r = r*6364136223846793005 + 1442695040888963407
		open := p.open()
		step(t, x, p, 3, open[r>>40%uint64(len(open))], 0)
		if r>>60 > 2 {
			step(t, x, p, 0, 0, 0)
		}
		if got := x.Open(); !slices.Equal(got, p.open()) {
			t.Fatalf("Open = %v, want %v", got, p.open())
		}
	}
}

// R3: what Open answers is new memory, its spare room too: no answer shares with the table or with another one.
func TestOpenIsNewMemory(t *testing.T) {
	x := status.New()
	for range 5 {
		x.Begin()
	}
	want := []int{1, 2, 3, 4, 5}
	one, two := x.Open(), x.Open()
	for i := range one[:cap(one)] {
		one[:cap(one)][i] = 99
	}
	if !slices.Equal(two, want) || !slices.Equal(x.Open(), want) {
		t.Errorf("behind writing to an answer: %v, %v", two, x.Open())
	}
	x.Abort(1)
	x.Open()
	x.Begin()
	if !slices.Equal(two, want) {
		t.Errorf("behind further calls an answer is %v", two)
	}
}

// R4: tables know nothing of one another.
func TestTablesAreApart(t *testing.T) {
	a, b := status.New(), status.New()
	begin(t, a, 1)
	begin(t, a, 2)
	begin(t, b, 1)
	is(t, "Abort", a.Abort(1), api.OK)
	stateIs(t, b, 1, fate{state: api.StateActive})
	is(t, "Prepare", b.Prepare(2), api.ErrTxn)
	is(t, "Forget", a.Forget(1), api.OK)
	stateIs(t, b, 1, fate{state: api.StateActive})
}

// St2: a forgotten one is there no more: memory is given back.
func TestForgottenOnesTakeNoMemory(t *testing.T) {
	x := status.New()
	var was, now runtime.MemStats
	for n := 1; n <= 400000; n++ {
		x.Begin()
		x.Abort(n)
		x.Forget(n)
		if n == 1000 {
			runtime.GC()
			runtime.ReadMemStats(&was)
		}
	}
	runtime.GC()
	runtime.ReadMemStats(&now)
	if now.HeapAlloc > was.HeapAlloc+1<<20 {
		t.Errorf("the heap has %d bytes behind 400000 forgotten ones, had %d behind 1000", now.HeapAlloc, was.HeapAlloc)
	}
	begin(t, x, 400001)
}
