package chain

import "vellum/api"

// Put puts a write into an intent.
func Put(in api.Intent, w api.Write) (api.Intent, api.Errno) {
	if w.Level < 0 || above(in.Writes, w.Level) || goneWithRow(w.Gone, w.Row) || in.Txn < 1 {
		return api.Intent{}, api.ErrArg
	}
	return topped(in, w), api.OK
}

// Back takes the writes of a level, and of those above it, out.
func Back(in api.Intent, level int) api.Intent {
	left := below(in.Writes, level)
	if len(left) == 0 {
		return api.Intent{}
	}
	return api.Intent{Txn: in.Txn, Writes: left}
}

// Fold makes the writes of a level, and of those above it, such of the level below.
func Fold(in api.Intent, level int) (api.Intent, api.Errno) {
	if level < 1 {
		return api.Intent{}, api.ErrArg
	}
	if !above(in.Writes, level-1) { // none is to be folded: all are below
		return api.Intent{Txn: in.Txn, Writes: below(in.Writes, level)}, api.OK
	}
	last := in.Writes[len(in.Writes)-1]
	last.Level = level - 1
	return topped(in, last), api.OK
}

// topped is an intent with a write in the place of those of its level and of those above it: levels rise, so that it is the last one then.
func topped(in api.Intent, w api.Write) api.Intent {
	return api.Intent{Txn: in.Txn, Writes: append(below(in.Writes, w.Level), ownWrite(w))}
}

// above tells whether the level of some write is above a level.
func above(l []api.Write, level int) bool {
	for _, w := range l {
		if w.Level > level {
			return true
		}
	}
	return false
}

// below is those writes whose level is below a level.
func below(l []api.Write, level int) []api.Write {
	var left []api.Write
	for _, w := range l {
		if w.Level < level {
			left = append(left, ownWrite(w))
		}
	}
	return left
}

// ownWrite is a write with a row of its own, so that an answer shares nothing with what was handed in.
func ownWrite(w api.Write) api.Write {
	w.Row = ownRow(w.Row)
	return w
}
