package chain

import (
	"slices"

	"chainmail/api"
)

// Where a neighbour stands, seen from a node.
const (
	ahead = -1
	next  = 1
)

// place is a node's number in its configuration, from 0 on; below 0, if it is not there.
func (n *Node) place() int { return slices.Index(n.nodes, n.id) }

// neighbour is who stands there; false: nobody does, as with all neighbours of who is not in the chain.
func (n *Node) neighbour(where int) (int, bool) {
	k := n.place() + where
	if !n.In() || k < 0 || k >= len(n.nodes) {
		return 0, false
	}
	return n.nodes[k], true
}

// is says whether that neighbour has that number.
func (n *Node) is(where, id int) bool {
	there, ok := n.neighbour(where)
	return ok && there == id
}

// send addresses a message to a neighbour: it is nothing if there is none.
func (n *Node) send(where int, m api.Msg) []api.Msg {
	to, ok := n.neighbour(where)
	if !ok {
		return nil
	}
	m.From, m.To, m.Epoch = n.id, to, n.epoch
	return []api.Msg{m}
}

// twice says whether one of them is there twice.
func twice(ids []int) bool {
	seen := map[int]struct{}{}
	return slices.ContainsFunc(ids, func(id int) bool {
		_, there := seen[id]
		seen[id] = struct{}{}
		return there
	})
}
