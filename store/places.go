package store

import (
	"vellum/api"
	"vellum/cell"
)

// place is where a slot's row lies. Of its states the newest one alone is kept.
type place = cell.Cell[state]

// place is a slot's; an empty one, where none was needed yet.
func (s *Store) place(slot int) *place {
	places := *s.places.Load()
	if slot < 0 || slot >= len(places) {
		return cell.New[state]()
	}
	return places[slot]
}

// state is a slot's row as it is now.
func (s *Store) state(slot int) state {
	x, _ := s.place(slot).Load()
	return x
}

// take puts a row into the least slot in which none is.
func (s *Store) take(x state) (int, api.Errno) {
	s.lock.Lock()
	defer s.lock.Unlock()
	slot := s.taken.least()
	if slot == s.most {
		return 0, api.ErrFull
	}
	s.taken = s.taken.with(slot)
	if places := *s.places.Load(); slot < len(places) {
		_, number := places[slot].Load()
		put(places[slot], number, x) // nobody else comes ahead: where no row is, only a taker pushes
	} else {
		s.grow(x)
	}
	return slot, api.OK
}

// grow makes a place for the next slot, in which the row lies already when others come to see it.
func (s *Store) grow(x state) {
	p := cell.New[state]()
	put(p, 0, x)
	places := append(*s.places.Load(), p) // behind the end of the list that others go by
	s.places.Store(&places)
}

// turn changes a slot's row: how it is then. What it changes to is asked again, if another call came ahead; of many that call, one always gets on.
func (s *Store) turn(slot int, change func(x state) (state, bool)) state {
	p := s.place(slot)
	for {
		was, number := p.Load()
		is, changed := change(was)
		if !changed {
			return was
		}
		if s.push(slot, number, is) {
			return is
		}
	}
}

// push is put of a slot's row, which may be there no more then.
func (s *Store) push(slot int, number uint64, x state) bool {
	p := s.place(slot)
	if x.there() {
		return put(p, number, x)
	}
	s.lock.Lock()
	defer s.lock.Unlock()
	if !put(p, number, x) {
		return false
	}
	s.taken.without(slot)
	return true
}

// put pushes a state onto a place, if the newest one there still has a number.
func put(p *place, number uint64, x state) bool {
	if !p.Push(number, x) {
		return false
	}
	// If another one has pushed since, nothing goes by this: all goes by that one's own.
	p.Keep(number+1, 1)
	return true
}
