package house

import (
	"chainmail/api"
)

// calmTicks is how often Calm lets nodes tell again what may have been missed, ahead of looking whether that brought anything.
const calmTicks = 4

// Many is how many messages are under way.
func (h *House) Many() int { return h.way.Many() }

// Deliver brings a message (of those under way). ErrRange.
func (h *House) Deliver(k int) error {
	m, err := h.way.Take(k)
	if err != nil {
		return err
	}
	if n, ok := h.node(m.To); ok {
		h.way.Send(n.Step(m)...)
		h.settle()
	}
	return nil
}

// Lose, Twice are the net's.
func (h *House) Lose(k int) error { return h.way.Lose(k) }

// Twice sends a message once more.
func (h *House) Twice(k int) error { return h.way.Twice(k) }

// Tick lets all nodes tell again what may have been missed.
func (h *House) Tick() {
	for k := range h.lines {
		for _, n := range h.living(k) {
			h.way.Send(n.Tick()...)
		}
	}
}

// Calm brings all messages, and lets nodes tell again what was missed, until all chains have all that their heads have (or nothing moves any more): messages for which there was no room are missed once more.
func (h *House) Calm() {
	for before := -1; before != h.known(); {
		before = h.known()
		for range calmTicks {
			h.Tick()
			h.deliverAll()
		}
	}
}

// deliverAll brings messages, the first one first, until none is under way.
func (h *House) deliverAll() {
	for h.Many() > 0 {
		h.Deliver(0)
	}
}

// known is how many commands all nodes that live have together: while none fails it only grows.
func (h *House) known() int {
	sum := 0
	for k := range h.lines {
		for _, n := range h.living(k) {
			sum += n.Len()
		}
	}
	return sum
}

// Fail ends a node, for ever. ErrMissing: there is none such, or it is dead.
func (h *House) Fail(id int) error {
	if _, ok := h.node(id); !ok {
		return api.ErrMissing
	}
	h.dead[id] = struct{}{}
	h.way.Down(id)
	return nil
}

// Fix gives each chain that has dead nodes in its configuration one without them.
func (h *House) Fix() {
	for k, l := range h.lines {
		living := h.living(k)
		if len(living) == 0 || len(living) == len(l.nodes) {
			continue
		}
		l.nodes = living
		h.way.Send(l.become()...)
		h.forsake(k)
	}
	h.tell() // what a head was told may be lost with it
	h.settle()
}

// forsake aborts transactions of which a shard's new head has not what it must.
func (h *House) forsake(k int) {
	log := h.lines[k].nodes[0].Log()
	for i, t := range h.txs {
		lost := t.state == Open || t.state == Ending && place(log, api.Prepare, i+1) < 0
		if t.at[k] != away && lost {
			h.abort(i + 1)
		}
	}
}

// Alive says whether each chain has a node that lives.
func (h *House) Alive() bool {
	for k := range h.lines {
		if len(h.living(k)) == 0 {
			return false
		}
	}
	return true
}

// Logs are of a shard (the last one: of decisions) the logs of all nodes that live, the head's first. ErrRange.
func (h *House) Logs(k int) ([][]api.Cmd, error) {
	if k < 0 || k >= len(h.lines) {
		return nil, api.ErrRange
	}
	var logs [][]api.Cmd
	for _, n := range h.living(k) {
		logs = append(logs, n.Log())
	}
	return logs, nil
}
