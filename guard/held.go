package guard

import (
	"slices"

	"vellum/api"
	"vellum/chain"
	"vellum/value"
)

// tableKey is the number of the index of a table's own key.
const tableKey = -1

// look is the rows as they are there now, of a range of keys.
func (a *asking) look(table, index int, r api.Range) ([]api.Held, api.Errno) {
	return a.guard.db.Latest(table, index, r)
}

// sees is the row that the transaction sees; false: it sees none.
func (a *asking) sees(h api.Held) ([]api.Value, bool) {
	return chain.See(h.Versions, h.Intent, a.view.Txn, a.view.Stamp)
}

// isOwn tells whether the transaction has written the row itself.
func (a *asking) isOwn(h api.Held) bool {
	return h.Intent.Txn == a.view.Txn
}

// isOthers tells whether another one has.
func (a *asking) isOthers(h api.Held) bool {
	return h.Intent.Txn != 0 && !a.isOwn(h)
}

// there is all rows that are there for the transaction, or may come to be there if another one ends or goes back.
func (a *asking) there(h api.Held) [][]api.Value {
	if a.isOwn(h) {
		if row, seen := a.sees(h); seen {
			return [][]api.Value{row}
		}
		return nil
	}
	var l [][]api.Value
	if len(h.Versions) > 0 && !h.Versions[0].Gone {
		l = append(l, h.Versions[0].Row)
	}
	for _, w := range h.Intent.Writes {
		if !w.Gone {
			l = append(l, w.Row)
		}
	}
	return l
}

// meets is whether a row of a kind is among those of a table, but the one that is seen under the key: then it is refused; or ErrBusy, if others have written all that are so, and none of them is seen.
func (a *asking) meets(table int, held []api.Held, refused api.Errno, is func(row []api.Value) bool) api.Errno {
	met := api.OK
	for _, h := range held {
		if table == a.table && h.Slot == a.slot {
			continue
		}
		row, seen := a.sees(h)
		switch {
		case seen && is(row):
			return refused
		case !slices.ContainsFunc(a.there(h), is):
		case a.isOthers(h):
			met = api.ErrBusy
		default:
			return refused
		}
	}
	return met
}

// pick is a row's values in some columns.
func pick(row []api.Value, columns []int) []api.Value {
	l := make([]api.Value, len(columns))
	for i, c := range columns {
		l[i] = row[c]
	}
	return l
}

func hasNull(l []api.Value) bool {
	return slices.ContainsFunc(l, func(v api.Value) bool { return v.Kind == api.KindNull })
}

// has tells whether a row has these values, of which none is null, in some columns. No row has none.
func has(row []api.Value, columns []int, l []api.Value) bool {
	if len(row) == 0 {
		return false
	}
	for i, c := range columns {
		if value.Compare(row[c], l[i]) != 0 {
			return false
		}
	}
	return true
}
