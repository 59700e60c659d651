package schema

import (
	"vellum/api"
	"vellum/value"
)

// Fill is a row that has some values at some columns, and what stands there by default at all others.
func Fill(t api.Table, columns []int, values []api.Value) ([]api.Value, api.Errno) {
	if err := Check(t); err != api.OK {
		return nil, err
	}
	if len(columns) != len(values) || !apart(t, columns) {
		return nil, api.ErrArg
	}
	row := make([]api.Value, len(t.Columns))
	for i, c := range t.Columns {
		row[i] = c.Default
	}
	for i, column := range columns {
		row[column] = values[i]
	}
	if err := admitsValues(t, row); err != api.OK {
		return nil, err
	}
	return row, api.OK
}

// Admits tells why a row may not be one of a table.
func Admits(t api.Table, row []api.Value) api.Errno {
	if err := Check(t); err != api.OK {
		return err
	}
	if len(row) != len(t.Columns) {
		return api.ErrArg
	}
	return admitsValues(t, row)
}

// admitsValues is Admits of a table that may be and of a row that has as many values.
func admitsValues(t api.Table, row []api.Value) api.Errno {
	for i, c := range t.Columns {
		if err := admitsValue(c, row[i]); err != api.OK {
			return err
		}
	}
	return api.OK
}

func admitsValue(c api.Column, v api.Value) api.Errno {
	if err := value.Check(v); err != api.OK {
		return err
	}
	switch {
	case v.Kind == api.KindNull && !c.Null:
		return api.ErrNull
	case v.Kind != api.KindNull && v.Kind != c.Kind:
		return api.ErrColumn
	}
	return api.OK
}
