package index_test

import (
	"fmt"
	"maps"
	"slices"

	"vellum/api"
	"vellum/code"
	"vellum/schema"
	"vellum/store"
)

// plain is an index as one caller sees it: the words of the chapter, one by one.
type plain struct {
	table   api.Table
	n       int
	entries map[string]int
}

func newPlain(t api.Table, n int) *plain {
	return &plain{t, n, map[string]int{}}
}

// key is a row's key, by the layers below layer 4.
func (p *plain) key(row []api.Value) (string, api.Errno) {
	if err := schema.Admits(p.table, row); err != api.OK {
		return "", err
	}
	picked := func(columns []int) []api.Value {
		var l []api.Value
		for _, column := range columns {
			l = append(l, row[column])
		}
		return l
	}
	key, err := code.Encode(picked(p.table.Key))
	if err != api.OK || p.n < 0 {
		return key, err
	}
	return code.Encode(append(picked(p.table.Indexes[p.n].Columns), picked(p.table.Key)...))
}

func (p *plain) put(row []api.Value, slot int) api.Errno {
	key, err := p.key(row)
	if err != api.OK {
		return err
	}
	if slot < 0 {
		return 1
	}
	if was, there := p.entries[key]; there && was != slot {
		return 140
	}
	p.entries[key] = slot
	return 0
}

// fits tells whether a row may be put so.
func (p *plain) fits(row []api.Value, slot int) bool {
	return (&plain{p.table, p.n, maps.Clone(p.entries)}).put(row, slot) == 0
}

func (p *plain) build(s *store.Store) api.Errno {
	for _, slot := range s.Slots() {
		for _, v := range s.Versions(slot) {
			if !v.Gone {
				if err := p.put(v.Row, slot); err != api.OK {
					return err
				}
			}
		}
		for _, w := range s.Intent(slot).Writes {
			if !w.Gone {
				if err := p.put(w.Row, slot); err != api.OK {
					return err
				}
			}
		}
	}
	return 0
}

// within is the keys of the entries in a range, in order.
func (p *plain) within(r api.Range, back bool) []string {
	keys := slices.Sorted(maps.Keys(p.entries))
	keys = slices.DeleteFunc(keys, func(key string) bool { return key < r.Lo || !r.Open && key >= r.Hi })
	if back {
		slices.Reverse(keys)
	}
	return keys
}

func (p *plain) find(r api.Range, back bool, most int) []api.Hit {
	var l []api.Hit
	for _, key := range p.within(r, back) {
		if len(l) < most {
			l = append(l, api.Hit{Key: key, Slot: p.entries[key]})
		}
	}
	return l
}

func (p *plain) look(s *store.Store, v api.View, r api.Range, back bool, most int) []api.Seen {
	var l []api.Seen
	for _, key := range p.within(r, back) {
		slot := p.entries[key]
		row, there := s.Read(slot, v.Txn, v.Stamp)
		if !there || len(l) >= most {
			continue
		}
		if own, err := p.key(row); err == api.OK && own == key {
			l = append(l, api.Seen{Slot: slot, Key: key, Row: row})
		}
	}
	return l
}

// has tells whether a slot's row has a key.
func (p *plain) has(s *store.Store, slot int, key string) bool {
	for _, v := range s.Versions(slot) {
		if own, err := p.key(v.Row); !v.Gone && err == api.OK && own == key {
			return true
		}
	}
	return false
}

func (p *plain) sweep(s *store.Store) int {
	was := len(p.entries)
	maps.DeleteFunc(p.entries, func(key string, slot int) bool {
		return !slices.Contains(s.Slots(), slot) || s.Intent(slot).Txn == 0 && !p.has(s, slot, key)
	})
	return was - len(p.entries)
}

// shown is all entries as a text.
func (p *plain) shown() string {
	return fmt.Sprint(shownHits(p.find(all(), false, many)))
}

// next is the next one of a row of numbers that looks like chance.
func next(r uint64) uint64 { return r*6364136223846793005 + 1442695040888963407 }

// chance makes numbers that look like chance.
type chance struct{ r uint64 }

func (c *chance) below(n int) int {
	c.r = next(c.r)
	return int(c.r >> 33 % uint64(n))
}
