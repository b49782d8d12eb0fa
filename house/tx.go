package house

import (
	"iter"
	"slices"

	"chainmail/api"
)

// What a shard is to a transaction.
const (
	away  = iota // it never came there
	there        // it came there
	sure         // what it writes there is stable there
)

// tx is a transaction.
type tx struct {
	state  int
	at     []int      // what each shard is to it
	writes []api.Pair // each key once
	time   int        // when it was committed
}

// tx is a transaction that there is.
func (h *House) tx(id int) *tx { return h.txs[id-1] }

// open is nothing, if a transaction is open. ErrMissing, ErrState.
func (h *House) open(id int) error {
	switch h.State(id) {
	case 0:
		return api.ErrMissing
	case Open:
		return nil
	}
	return api.ErrState
}

// full says whether a transaction may write no key but those that it wrote, and this is none of them.
func (t *tx) full(key string) bool { return len(t.writes) >= mostWrites && t.wrote(key) < 0 }

// wrote is the place of a key among those that it wrote; below 0: it is not there.
func (t *tx) wrote(key string) int {
	return slices.IndexFunc(t.writes, func(p api.Pair) bool { return p.Key == key })
}

// write takes the place of what it wrote to that key ahead.
func (t *tx) write(p api.Pair) {
	if n := t.wrote(p.Key); n >= 0 {
		t.writes[n] = p
		return
	}
	t.writes = append(t.writes, p)
}

// ready says whether all it writes is stable wherever it came.
func (t *tx) ready() bool { return !slices.Contains(t.at, there) }

// sees is a key's value, if it reads it at a node with that log; false: there is none.
func (t *tx) sees(log []api.Cmd, key string) (string, bool) {
	for p := range t.seen(log) {
		switch {
		case p.Key != key:
			continue
		case p.Gone:
			return "", false
		}
		return p.Value, true
	}
	return "", false
}

// seen goes through all writes that a transaction sees, the last one first: its own, then those that were committed.
func (t *tx) seen(log []api.Cmd) iter.Seq[api.Pair] {
	return func(yield func(api.Pair) bool) {
		for _, p := range slices.Backward(t.writes) {
			if !yield(p) {
				return
			}
		}
		for p := range committed(log) {
			if !yield(p) {
				return
			}
		}
	}
}

// committed goes through all writes of a log that were committed, the last one first.
func committed(log []api.Cmd) iter.Seq[api.Pair] {
	return func(yield func(api.Pair) bool) {
		for _, c := range slices.Backward(log) {
			if c.Kind != api.Commit {
				continue
			}
			for _, p := range slices.Backward(log[place(log, api.Prepare, c.Tx)].Writes) {
				if !yield(p) {
					return
				}
			}
		}
	}
}
