package row

import (
	"slices"

	"vellum/api"
	"vellum/schema"
	"vellum/value"
)

// Change is what turns one row into another one, as bytes.
func Change(t api.Table, from, to []api.Value) (string, api.Errno) {
	for _, l := range [][]api.Value{from, to} {
		if err := schema.Admits(t, l); err != api.OK {
			return "", err
		}
	}
	var b []byte
	next := 0
	for i := range to {
		if value.Same(from[i], to[i]) {
			continue
		}
		b = appendVarint(b, uint64(i-next))
		b = appendRow(b, to[i:i+1])
		next = i + 1
	}
	return limited(b)
}

// Apply turns a row by a change.
func Apply(t api.Table, l []api.Value, change string) ([]api.Value, api.Errno) {
	if err := schema.Admits(t, l); err != api.OK {
		return nil, err
	}
	if len(change) > api.MaxRow {
		return nil, api.ErrLong
	}
	turned := slices.Clone(l)
	next := 0
	for rest := change; rest != ""; {
		column, v, size, ok := readStep(t.Columns, next, rest)
		// A column that would stay as it is, no change tells.
		if !ok || value.Same(l[column], v) {
			return nil, api.ErrBytes
		}
		turned[column] = v
		next = column + 1
		rest = rest[size:]
	}
	return turned, api.OK
}

// readStep is the next column that a change tells, from next on, what it has then, and how many bytes of s say so; false: none.
func readStep(columns []api.Column, next int, s string) (int, api.Value, int, bool) {
	between, skipped, ok := readVarint(s)
	if !ok || between >= uint64(len(columns)-next) {
		return 0, api.Value{}, 0, false
	}
	column := next + int(between)
	l, size, ok := readRow(columns[column:column+1], s[skipped:])
	if !ok {
		return 0, api.Value{}, 0, false
	}
	return column, l[0], skipped + size, true
}
