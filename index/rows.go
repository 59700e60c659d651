package index

import (
	"vellum/api"
	"vellum/store"
)

// orEmpty is a store; for nil one without rows.
func orEmpty(s *store.Store) *store.Store {
	if s != nil {
		return s
	}
	empty, _ := store.New(1)
	return empty
}

// rowsOf is the rows of a slot's versions, the newest first, and of its writes, those that are gone left out. The intent is asked for first: were it settled in between, its last write is a version then, and else would be in neither.
func rowsOf(s *store.Store, slot int) [][]api.Value {
	in := s.Intent(slot)
	var rows [][]api.Value
	for _, v := range s.Versions(slot) {
		if !v.Gone {
			rows = append(rows, v.Row)
		}
	}
	for _, w := range in.Writes {
		if !w.Gone {
			rows = append(rows, w.Row)
		}
	}
	return rows
}
