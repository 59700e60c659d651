package cursor_test

import (
	"slices"

	"vellum/api"
	"vellum/code"
	"vellum/index"
	"vellum/pred"
	"vellum/store"
)

// plain is a cursor by the words of the chapter, one by one.
type plain struct {
	table   api.Table
	n       int
	store   *store.Store
	index   *index.Index
	view    api.View
	scan    api.Scan
	stands  bool
	key     string
	told    int
	ended   bool
	lacking bool
}

// keyIn is a row's key in the n-th index, by the layers below layer 4.
func keyIn(t api.Table, n int, row []api.Value) string {
	var columns []int
	if n >= 0 {
		columns = t.Indexes[n].Columns
	}
	var l []api.Value
	for _, column := range slices.Concat(columns, t.Key) {
		l = append(l, row[column])
	}
	key, _ := code.Encode(l)
	return key
}

func inRange(r api.Range, key string) bool {
	return key >= r.Lo && (r.Open || key < r.Hi)
}

// entry is the next entry; false: there is none.
func (p *plain) entry() (api.Hit, bool) {
	hits := p.index.Find(api.Range{Open: true}, false, many)
	if p.scan.Back {
		slices.Reverse(hits)
	}
	for _, h := range hits {
		passed := p.stands && (h.Key == p.key || (h.Key < p.key) != p.scan.Back)
		if inRange(p.scan.Range, h.Key) && !passed {
			return h, true
		}
	}
	return api.Hit{}, false
}

func (p *plain) next() (api.Seen, bool, api.Errno) {
	for !p.ended {
		if p.told >= p.scan.Most {
			p.ended = true
			break
		}
		h, there := p.entry()
		if !there {
			p.ended, p.lacking = true, true
			break
		}
		p.stands, p.key = true, h.Key
		row, there := p.store.Read(h.Slot, p.view.Txn, p.view.Stamp)
		if !there || keyIn(p.table, p.n, row) != h.Key {
			continue
		}
		takes, err := true, api.OK
		if p.scan.Where.Kind != 0 {
			takes, err = pred.Takes(p.table, p.scan.Where, row)
		}
		if err != api.OK {
			p.ended = true
			return api.Seen{}, false, err
		}
		if takes {
			p.told++
			return api.Seen{Slot: h.Slot, Key: h.Key, Row: row}, true, api.OK
		}
	}
	return api.Seen{}, false, api.OK
}

func (p *plain) through() api.Range {
	r := p.scan.Range
	if r.Open {
		r.Hi = ""
	}
	switch {
	case p.lacking && !r.Open && r.Lo >= r.Hi:
		return api.Range{}
	case p.lacking:
		return r
	case !p.stands:
		return api.Range{}
	case p.scan.Back:
		r.Lo = p.key
		return r
	}
	return api.Range{Lo: r.Lo, Hi: p.key + "\x00"}
}

// all is what All tells.
func (p *plain) all() ([]api.Seen, api.Range, api.Errno) {
	var l []api.Seen
	for {
		r, there, err := p.next()
		switch {
		case err != api.OK:
			return nil, api.Range{}, err
		case !there:
			return l, p.through(), api.OK
		}
		l = append(l, r)
	}
}
