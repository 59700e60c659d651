package txn

import "vellum/api"

// loader is who writes what is loaded: a transaction that is gone ahead of the first one.
const loader = 1

// Load has rows at a stamp, as a checkpoint tells them.
func Load(tables []api.Table, rows [][][]api.Value, stamp uint64) (*DB, api.Errno) {
	if err := checkTables(tables); err != api.OK {
		return nil, err
	}
	if len(rows) != len(tables) || stamp > api.MaxStamp || stamp == 0 && someRow(rows) {
		return nil, api.ErrArg
	}
	d := empty(tables, stamp)
	for n, t := range d.tables {
		if err := t.load(rows[n]); err != api.OK {
			return nil, err
		}
		// Refused at the stamp 0 alone, at which there are no rows.
		t.store.Settle(loader, stamp)
	}
	return d, api.OK
}

func someRow(rows [][][]api.Value) bool {
	for _, l := range rows {
		if len(l) > 0 {
			return true
		}
	}
	return false
}

// load adds rows, up to the first one that is refused.
func (t *table) load(rows [][]api.Value) api.Errno {
	for _, l := range rows {
		keys, err := t.keys(l)
		if err != api.OK {
			return err
		}
		if _, there := t.slot(keys[0]); there {
			return api.ErrExists
		}
		if t.isFull() {
			return api.ErrFull
		}
		t.add(loader, api.Write{Row: l})
	}
	return api.OK
}
