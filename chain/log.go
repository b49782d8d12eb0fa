package chain

import (
	"chainmail/api"
)

func (n *Node) room() bool { return len(n.log) < api.MaxLog }

// grow puts a command at the log's end, whoever it came from, and is what is told of that.
func (n *Node) grow(c api.Cmd) []api.Msg {
	number := len(n.log)
	n.log = append(n.log, own(c))
	if n.Tail() {
		return n.Tick()
	}
	return n.forward(number)
}

// forward tells the next one each command from a number on.
func (n *Node) forward(from int) []api.Msg {
	var l []api.Msg
	for k := from; k < len(n.log); k++ {
		l = append(l, n.send(next, api.Msg{Kind: api.Forward, N: k, Cmd: own(n.log[k])})...)
	}
	return l
}

// own is a command that shares no list with c: whoever has c may write into it.
func own(c api.Cmd) api.Cmd {
	c.Writes = append([]api.Pair(nil), c.Writes...)
	return c
}
