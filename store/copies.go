package store

import "vellum/api"

// own is a copy that may be handed out: who gets it may change it.
func own[T any](l []T) []T {
	if len(l) == 0 {
		return nil
	}
	c := make([]T, len(l))
	copy(c, l)
	return c
}

func ownVersions(l []api.Version) []api.Version {
	c := own(l)
	for i := range c {
		c[i].Row = own(c[i].Row)
	}
	return c
}

func ownIntent(in api.Intent) api.Intent {
	c := own(in.Writes)
	for i := range c {
		c[i].Row = own(c[i].Row)
	}
	return api.Intent{Txn: in.Txn, Writes: c}
}
