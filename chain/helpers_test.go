package chain_test

import (
	"math"
	"math/rand"
	"slices"
	"strconv"
	"strings"

	"vellum/api"
	"vellum/lit"
	"vellum/value"
)

func row(n int64) []api.Value { return []api.Value{lit.Int(n)} }

func at(stamp uint64, n int64) api.Version { return api.Version{Stamp: stamp, Row: row(n)} }

func goneAt(stamp uint64) api.Version { return api.Version{Stamp: stamp, Gone: true} }

func on(level int, n int64) api.Write { return api.Write{Level: level, Row: row(n)} }

func goneOn(level int) api.Write { return api.Write{Level: level, Gone: true} }

func versions(l ...api.Version) []api.Version { return l }

func intent(txn int, l ...api.Write) api.Intent { return api.Intent{Txn: txn, Writes: l} }

// allVersions is each list of versions that may stand so and whose stamps are 1 to last: at each stamp there is a row, one that is gone, or no version.
func allVersions(last uint64) [][]api.Version {
	lists := [][]api.Version{nil}
	for stamp := uint64(1); stamp <= last; stamp++ {
		for _, l := range slices.Clone(lists) {
			lists = append(lists,
				slices.Concat(versions(at(stamp, int64(stamp))), l),
				slices.Concat(versions(goneAt(stamp)), l))
		}
	}
	return lists
}

// allIntents is each intent of a transaction that may be and whose levels are 0 to last; and the zero one.
func allIntents(txn, last int) []api.Intent {
	lists := [][]api.Write{nil}
	for level := range last + 1 {
		for _, l := range slices.Clone(lists) {
			lists = append(lists,
				slices.Concat(l, []api.Write{on(level, int64(10+level))}),
				slices.Concat(l, []api.Write{goneOn(level)}))
		}
	}
	intents := []api.Intent{{}}
	for _, l := range lists[1:] {
		intents = append(intents, intent(txn, l...))
	}
	return intents
}

// brokenVersions is lists that may not stand so, beside some that may.
func brokenVersions() [][]api.Version {
	pieces := []api.Version{
		at(0, 1), at(1, 1), at(2, 2), at(5, 3), at(api.MaxStamp, 4), at(api.MaxStamp+1, 5), at(math.MaxUint64, 6),
		goneAt(0), goneAt(2), goneAt(api.MaxStamp + 1), {Stamp: 3, Gone: true, Row: row(7)}, {Stamp: 4}, {},
	}
	lists := [][]api.Version{nil, {}}
	for _, a := range pieces {
		lists = append(lists, versions(a))
		for _, b := range pieces {
			lists = append(lists, versions(a, b))
			for _, c := range pieces {
				lists = append(lists, versions(a, b, c))
			}
		}
	}
	return lists
}

// brokenIntents is intents that may not be, beside some that may.
func brokenIntents() []api.Intent {
	pieces := []api.Write{
		on(math.MinInt, 1), on(-1, 2), on(0, 3), on(2, 4), on(math.MaxInt, 5),
		goneOn(-1), goneOn(0), goneOn(3), {Level: 1, Gone: true, Row: row(6)}, {},
	}
	var intents []api.Intent
	for _, txn := range []int{math.MinInt, -1, 0, 1, 7, math.MaxInt} {
		intents = append(intents, intent(txn))
		for _, a := range pieces {
			intents = append(intents, intent(txn, a))
			for _, b := range pieces {
				intents = append(intents, intent(txn, a, b))
			}
		}
	}
	return intents
}

// sameRow tells whether rows are the same, bit by bit.
func sameRow(a, b []api.Value) bool { return slices.EqualFunc(a, b, value.Same) }

func sameVersions(a, b []api.Version) bool {
	return slices.EqualFunc(a, b, func(a, b api.Version) bool {
		return a.Stamp == b.Stamp && a.Gone == b.Gone && sameRow(a.Row, b.Row)
	})
}

func sameIntent(a, b api.Intent) bool {
	return a.Txn == b.Txn && slices.EqualFunc(a.Writes, b.Writes, func(a, b api.Write) bool {
		return a.Level == b.Level && a.Gone == b.Gone && sameRow(a.Row, b.Row)
	})
}

// shown is versions as the chapter's examples have them.
func shown(l []api.Version) string {
	var b strings.Builder
	for _, v := range l {
		b.WriteString(" " + shownRow(v.Gone, v.Row) + "@" + strconv.FormatUint(v.Stamp, 10))
	}
	return "(" + b.String() + " )"
}

func shownIntent(in api.Intent) string {
	var b strings.Builder
	for _, w := range in.Writes {
		b.WriteString(" " + shownRow(w.Gone, w.Row) + " on " + strconv.Itoa(w.Level))
	}
	return "(of " + strconv.Itoa(in.Txn) + ":" + b.String() + " )"
}

func shownRow(gone bool, row []api.Value) string {
	var b strings.Builder
	if gone {
		b.WriteString("-")
	}
	for _, v := range row {
		s, e := value.Text(v)
		if e != api.OK {
			s = "?"
		}
		b.WriteString(s)
	}
	return b.String()
}

// randomRow is a row of some values of all kinds; sometimes it has none.
func randomRow(r *rand.Rand) []api.Value {
	var l []api.Value
	for range r.Intn(4) {
		l = append(l, []api.Value{
			lit.Null(), lit.Bool(r.Intn(2) == 0), lit.Int(int64(r.Uint64())), lit.Bits(r.Uint64()),
			lit.Bits(0x7ff0000000000001), lit.Bits(1 << 63), lit.Text(strconv.Itoa(r.Intn(1000))), lit.Bytes("\xff\x00"),
		}[r.Intn(8)])
	}
	return l
}

// randomVersions is some versions that may stand so.
func randomVersions(r *rand.Rand) []api.Version {
	var l []api.Version
	stamp := uint64(r.Int63n(api.MaxStamp)) >> r.Intn(62)
	for stamp > 0 && len(l) < 12 {
		v := api.Version{Stamp: stamp, Gone: r.Intn(4) == 0}
		if !v.Gone {
			v.Row = randomRow(r)
		}
		l = append(l, v)
		stamp -= min(stamp, 1+uint64(r.Int63n(1+int64(stamp>>r.Intn(62)))))
	}
	return l
}

// randomIntent is an intent of some writes that may be.
func randomIntent(r *rand.Rand, txn int) api.Intent {
	in := api.Intent{Txn: txn}
	level := r.Intn(3)
	for range 1 + r.Intn(6) {
		w := api.Write{Level: level, Gone: r.Intn(4) == 0}
		if !w.Gone {
			w.Row = randomRow(r)
		}
		in.Writes = append(in.Writes, w)
		level += 1 + r.Intn(3)
	}
	return in
}
