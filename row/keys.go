package row

import (
	"slices"

	"vellum/api"
	"vellum/code"
	"vellum/schema"
)

// Key is the key of a row.
func Key(t api.Table, l []api.Value) (string, api.Errno) {
	if err := schema.Admits(t, l); err != api.OK {
		return "", err
	}
	return code.Encode(pick(l, t.Key))
}

// Entry is the key of an index's entry for a row.
func Entry(t api.Table, index int, l []api.Value) (string, api.Errno) {
	if _, err := Key(t, l); err != api.OK {
		return "", err
	}
	if index < 0 || index >= len(t.Indexes) {
		return "", api.ErrNone
	}
	return code.Encode(pick(l, slices.Concat(t.Indexes[index].Columns, t.Key)))
}

func pick(l []api.Value, columns []int) []api.Value {
	picked := make([]api.Value, len(columns))
	for i, column := range columns {
		picked[i] = l[column]
	}
	return picked
}
