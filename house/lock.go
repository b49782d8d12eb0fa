package house

import (
	"slices"

	"chainmail/api"
	"chainmail/chain"
	"chainmail/locks"
)

// come is the head to which a transaction goes for a key. ErrMissing, ErrState; ErrLimit: the key is too long; ErrFull: the head is dead.
func (h *House) come(id int, key string) (*chain.Node, error) {
	if err := h.open(id); err != nil {
		return nil, err
	}
	if len(key) > api.MaxKey {
		return nil, api.ErrLimit
	}
	head, ok := h.head(h.Shard(key))
	if !ok {
		return nil, api.ErrFull
	}
	return head, nil
}

// lock gets a key for a transaction that is open; those that are younger, open, and in its way are aborted. ErrCycle: it waits for that key; ErrLimit: too many do.
func (h *House) lock(id int, key string, mode int) error {
	_, wounded, err := h.keys.Lock(id, key, mode)
	if api.Tell(err) == api.ErrLimit && h.yield(id, key) {
		h.wound(h.others(id, key)) // it need not wait, so it doesn't matter how many do
		_, wounded, err = h.keys.Lock(id, key, mode)
	}
	switch api.Tell(err) {
	case api.ErrTwice:
		return api.ErrCycle
	case api.ErrLimit:
		return api.ErrLimit
	}
	h.tx(id).at[h.Shard(key)] = there
	h.wound(wounded)
	if h.keys.Holds(id, key) < mode {
		return api.ErrCycle
	}
	return nil
}

// wound aborts those that are open.
func (h *House) wound(ids []int) {
	for _, id := range ids {
		if h.tx(id).state == Open {
			h.abort(id)
		}
	}
}

// others is who else holds a key.
func (h *House) others(id int, key string) []int {
	var l []int
	for other := 1; other <= len(h.txs); other++ {
		if other != id && h.keys.Holds(other, key) != locks.None {
			l = append(l, other)
		}
	}
	return l
}

// yield says whether all others who hold a key would be aborted for a transaction that wants it. Those who wait need not be asked: an elder one has wounded all it could, so somebody stays for whom it waits.
func (h *House) yield(id int, key string) bool {
	stays := func(other int) bool { return other < id || h.tx(other).state != Open }
	return !slices.ContainsFunc(h.others(id, key), stays)
}

// waits says whether a transaction waits for some key.
func (h *House) waits(id int) bool {
	return slices.ContainsFunc(h.keys.Keys(), func(key string) bool {
		return slices.Contains(h.keys.Waits(key), id)
	})
}

// abort ends a transaction that is not committed. No shard heard of one that was open, so none is to be told.
func (h *House) abort(id int) {
	if t := h.tx(id); t.state == Open {
		clear(t.at)
	}
	h.finish(id, Aborted)
}

// finish ends a transaction: all its locks are let go.
func (h *House) finish(id, state int) {
	t := h.tx(id)
	t.state, t.writes = state, nil
	h.keys.Release(id)
}
