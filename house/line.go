package house

import (
	"slices"

	"chainmail/api"
	"chainmail/chain"
)

// line is the chain of a shard.
type line struct {
	nodes []*chain.Node // of its configuration, the head first
	heard int           // how many commands that are stable were followed
}

// spread is how far apart the numbers are that shards give to their nodes.
const spread = 10

// newLine is a shard's chain, and what its nodes tell each other at first.
func newLine(shard, nodes int) (*line, []api.Msg) {
	l := &line{}
	for i := range nodes {
		l.nodes = append(l.nodes, chain.New(spread*shard+i))
	}
	return l, l.become()
}

// become gives all nodes the next configuration, and is what they tell.
func (l *line) become() []api.Msg {
	c := api.Config{Epoch: l.nodes[0].Epoch() + 1}
	for _, n := range l.nodes {
		c.Nodes = append(c.Nodes, n.Id())
	}
	var told []api.Msg
	for _, n := range l.nodes {
		m, _ := n.Become(c) // it is the next epoch, and no node is there twice
		told = append(told, m...)
	}
	return told
}

// lives says whether a node does.
func (h *House) lives(n *chain.Node) bool {
	_, dead := h.dead[n.Id()]
	return !dead
}

// living is a shard's nodes that live, in order.
func (h *House) living(k int) []*chain.Node {
	dead := func(n *chain.Node) bool { return !h.lives(n) }
	return slices.DeleteFunc(slices.Clone(h.lines[k].nodes), dead)
}

// head is a shard's head; false: it is dead.
func (h *House) head(k int) (*chain.Node, bool) {
	n := h.lines[k].nodes[0]
	return n, h.lives(n)
}

// node is the one of that number; false: none that lives has it.
func (h *House) node(id int) (*chain.Node, bool) {
	for k := range h.lines {
		l := h.living(k)
		if i := slices.IndexFunc(l, func(n *chain.Node) bool { return n.Id() == id }); i >= 0 {
			return l[i], true
		}
	}
	return nil, false
}

// news is what has become stable and was not followed yet: what the tail has all nodes have.
func (l *line) news() []api.Cmd {
	tail := l.nodes[len(l.nodes)-1]
	if tail.Len() == l.heard {
		return nil
	}
	return tail.Log()[l.heard:]
}

// place is that of a transaction's command of some kind in a log; below 0: it is not there.
func place(log []api.Cmd, kind, tx int) int {
	return slices.IndexFunc(log, func(c api.Cmd) bool { return c.Kind == kind && c.Tx == tx })
}
