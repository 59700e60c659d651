package guard_test

import (
	"testing"

	"vellum/api"
)

// The chapter's first example: rows that are the same in a unique index.
func TestExampleOfAUniqueIndex(t *testing.T) {
	for _, level := range levels() {
		g := examples(t)
		x, y := begin(t, g, level), begin(t, g, level)
		insert(t, g, x, 0, row(1, 5), ok)
		insert(t, g, x, 0, row(2, 5), unique(api.ErrUnique, 0, 0))
		insert(t, g, x, 0, row(2, nil), ok)
		insert(t, g, x, 0, row(4, nil), ok)
		insert(t, g, y, 0, row(3, 5), unique(api.ErrBusy, 0, 0))
		commits(t, g, x)
		insert(t, g, y, 0, row(3, 5), unique(api.ErrUnique, 0, 0))
		insert(t, g, begin(t, g, level), 0, row(3, 5), unique(api.ErrUnique, 0, 0))
		nothingBroken(t, g)
	}
}

// The second one: references out and in.
func TestExampleOfReferences(t *testing.T) {
	for _, level := range levels() {
		g := examples(t)
		filled(t, g, 0, row(1, 5))
		x := begin(t, g, level)
		insert(t, g, x, 1, row(1, 9), out(api.ErrForeign, 1, 0))
		insert(t, g, x, 1, row(1, nil), ok)
		insert(t, g, x, 1, row(2, 1), ok)
		remove(t, g, x, 0, row(1), in(api.ErrForeign, 1, 0))
		commits(t, g, x)
		remove(t, g, begin(t, g, level), 0, row(1), in(api.ErrForeign, 1, 0))
		nothingBroken(t, g)
	}
}

// The third one: whoever comes second is busy.
func TestExampleOfWhoComesSecond(t *testing.T) {
	for _, level := range levels() {
		for _, first := range []bool{true, false} {
			g := examples(t)
			filled(t, g, 0, row(1, 5))
			x, y := begin(t, g, level), begin(t, g, level)
			if first {
				insert(t, g, x, 1, row(1, 1), ok)
				remove(t, g, y, 0, row(1), in(api.ErrBusy, 1, 0))
			} else {
				remove(t, g, y, 0, row(1), ok)
				insert(t, g, x, 1, row(1, 1), out(api.ErrBusy, 1, 0))
			}
			commits(t, g, x)
			commits(t, g, y)
			nothingBroken(t, g)
		}
	}
}

// The document's eighth example, by calls.
func TestExampleOfTheDocument(t *testing.T) {
	g := made(t, "create table t (a int not null, b int, primary key (a))", textU)
	filled(t, g, 0, row(1, 2), row(2, nil))
	x := begin(t, g, serial)
	insert(t, g, x, 1, row(1, 7), out(api.ErrForeign, 1, 0))
	insert(t, g, x, 1, row(1, 2), ok)
	remove(t, g, x, 0, row(2), in(api.ErrForeign, 1, 0))
	remove(t, g, x, 0, row(1), ok)
	commits(t, g, x)
	nothingBroken(t, g)
}
