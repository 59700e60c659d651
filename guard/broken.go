package guard

import (
	"vellum/api"
	"vellum/code"
)

// keys is some of them, to be found.
type keys map[string]struct{}

// Broken is what is not as it must be among a table's rows at a stamp.
func (g *Guard) Broken(table int, stamp uint64) ([]api.Broken, api.Errno) {
	if !g.given() {
		return nil, api.ErrArg
	}
	rows, err := g.db.At(table, stamp)
	if err != api.OK {
		return nil, err
	}
	there, err := g.referred(table, stamp)
	if err != api.OK {
		return nil, err
	}
	met := make([]keys, len(g.tables[table].Indexes))
	for n := range met {
		met[n] = keys{}
	}
	var l []api.Broken
	for _, row := range rows {
		found := append(g.twice(table, row, met), g.astray(table, row, there)...)
		key, _ := code.Encode(pick(row, g.tables[table].Key))
		for _, b := range found {
			b.Key = key
			l = append(l, b)
		}
	}
	return l, api.OK
}

// referred is the keys of each table to which references of a table lead, at a stamp.
func (g *Guard) referred(table int, stamp uint64) (map[int]keys, api.Errno) {
	there := map[int]keys{}
	for _, l := range g.links {
		if l.from != table || there[l.to] != nil {
			continue
		}
		rows, err := g.db.At(l.to, stamp)
		if err != api.OK {
			return nil, err
		}
		there[l.to] = keys{}
		for _, row := range rows {
			key, _ := code.Encode(pick(row, g.tables[l.to].Key))
			there[l.to][key] = struct{}{}
		}
	}
	return there, api.OK
}

// twice is the unique indexes in which a row is the same as one that was met ahead of it; from now on it is met, too.
func (g *Guard) twice(table int, row []api.Value, met []keys) []api.Broken {
	var l []api.Broken
	for n, x := range g.tables[table].Indexes {
		values := pick(row, x.Columns)
		if !x.Unique || hasNull(values) {
			continue
		}
		key, _ := code.Encode(values) // not too long: the row's key there begins with it
		if _, again := met[n][key]; again {
			l = append(l, api.Broken{Table: table, Kind: api.BrokenUnique, N: n})
		}
		met[n][key] = struct{}{}
	}
	return l
}

// astray is the references by which a row refers to none that is there.
func (g *Guard) astray(table int, row []api.Value, there map[int]keys) []api.Broken {
	var l []api.Broken
	for _, link := range g.links {
		if link.from != table {
			continue
		}
		to := pick(row, link.columns)
		if hasNull(to) {
			continue
		}
		key, err := code.Encode(to)
		if _, found := there[link.to][key]; err != api.OK || !found {
			l = append(l, api.Broken{Table: table, Kind: api.BrokenOut, N: link.n})
		}
	}
	return l
}
