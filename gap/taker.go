package gap

import (
	"slices"
	"sync"

	"vellum/api"
)

// taker is who has a ticket. All but what is told of it stays as it is once others may see it.
type taker struct {
	ticket uint64
	claim  claim
	// ahead has the tickets of those that stood in its way when it came, rising: nobody comes to them, since later ones stand behind it. Were it the takers themselves, each would keep all that ever were ahead of it.
	ahead []uint64
	// turned is closed when the taker is granted, or goes ahead of that; told is which of the two it was.
	turned chan struct{}
	told   api.Errno
	once   sync.Once
}

func newTaker(c claim) *taker {
	return &taker{claim: c, turned: make(chan struct{})}
}

// standBehind makes ready a taker that nobody sees yet for the end of a line. Where it stood behind another line ahead of that, those that were there then are known: only who came since is looked at, so that who has many ranges is not held up by many who come and go.
func (t *taker) standBehind(x *line) {
	t.ahead = x.left(t.ahead)
	for _, other := range x.from(t.ticket) {
		if inWay(t.claim, other.claim) {
			t.ahead = append(t.ahead, other.ticket)
		}
	}
	t.ticket = x.next
}

func (t *taker) waitsFor(other *taker) bool {
	_, found := slices.BinarySearch(t.ahead, other.ticket)
	return found
}

// tell says once for all what became of a taker.
func (t *taker) tell(told api.Errno) {
	t.once.Do(func() {
		t.told = told
		close(t.turned)
	})
}
