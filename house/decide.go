package house

import (
	"slices"

	"chainmail/api"
)

// settle lets transactions go on as far as chains have become stable.
func (h *House) settle() {
	for h.hear() {
		h.tell()
	}
}

// hear follows all that has become stable; false: nothing has.
func (h *House) hear() bool {
	heard := false
	for k, l := range h.lines {
		for _, c := range l.news() {
			h.follow(k, c)
			l.heard++
			heard = true
		}
	}
	return heard
}

// follow does what follows from a command that is stable at a shard.
func (h *House) follow(k int, c api.Cmd) {
	t := h.tx(c.Tx)
	switch {
	case k == h.decisions():
		t.time = c.Time
		h.finish(c.Tx, Committed)
	case c.Kind == api.Prepare:
		t.at[k] = sure
	}
}

// tell has all heads that live add what their shards have not been told.
func (h *House) tell() {
	for k := range h.lines {
		head, ok := h.head(k)
		if !ok {
			continue
		}
		log := head.Log()
		for id := 1; id <= len(h.txs); id++ {
			c, ok := h.due(id, k, head.Len()+1)
			if ok && place(log, c.Kind, id) < 0 {
				_, told, _ := head.Add(c) // it is the head, and no transaction has so many commands that there is no room
				h.way.Send(told...)
			}
		}
	}
}

// due is the command of a transaction that a shard must have; false: none. What is decided is decided at a time.
func (h *House) due(id, k, time int) (api.Cmd, bool) {
	t := h.tx(id)
	if k == h.decisions() {
		return api.Cmd{Kind: api.Commit, Tx: id, Time: time}, t.state == Ending && t.ready()
	}
	if t.at[k] == away {
		return api.Cmd{}, false
	}
	switch t.state {
	case Ending:
		return api.Cmd{Kind: api.Prepare, Tx: id, Writes: h.writesAt(t, k)}, true
	case Committed:
		return api.Cmd{Kind: api.Commit, Tx: id, Time: t.time}, true
	case Aborted:
		return api.Cmd{Kind: api.Abort, Tx: id}, true
	}
	return api.Cmd{}, false
}

// writesAt is what a transaction writes at a shard.
func (h *House) writesAt(t *tx, k int) []api.Pair {
	elsewhere := func(p api.Pair) bool { return h.Shard(p.Key) != k }
	return slices.DeleteFunc(slices.Clone(t.writes), elsewhere)
}
