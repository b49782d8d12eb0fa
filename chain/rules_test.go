package chain

import (
	"slices"
	"testing"

	"chainmail/api"
	"chainmail/plain"
)

// spoil writes into all of a command's list, also behind its length.
func spoil(c api.Cmd) {
	l := c.Writes[:cap(c.Writes)]
	for i := range l {
		l[i] = api.Pair{Key: "spoilt"}
	}
}

// spoilAll does so with all messages of an answer, and then with the answer.
func spoilAll(l []api.Msg) {
	for _, m := range l {
		spoil(m.Cmd)
	}
	clear(l[:cap(l)])
}

// P4: a configuration's list is not kept.
func TestNodesAreNotKept(t *testing.T) {
	nodes := []int{1, 2, 3}
	n := New(2)
	_, err := n.Become(api.Config{Epoch: 1, Nodes: nodes})
	is(t, "Become", err, api.OK)
	nodes[0], nodes[1], nodes[2] = 7, 8, 9
	state(t, n, true, false, false, 0, 0)
	told(t, "Tick", n.Tick(), msg(api.Sync, 2, 3, 1, 0))
	told(t, "Sync", n.Step(msg(api.Sync, 1, 2, 1, 0)), msg(api.Have, 2, 1, 1, 0))
}

// P4: a configuration's list is not written into, nor what stands behind its length.
func TestNodesAreNotChanged(t *testing.T) {
	nodes := []int{3, 2, 1, 1, 9, 9, 9, 9, 9}
	whole := slices.Clone(nodes)
	n := New(2)
	for epoch, many := range []int{3, 2, 3, 4, 9, 0, 1} {
		n.Become(api.Config{Epoch: epoch + 1, Nodes: nodes[:many]})
		n.Tick()
	}
	if !slices.Equal(nodes, whole) {
		t.Errorf("what was handed in is %v", nodes)
	}
}

// P4: the list of a command that is handed in is neither kept nor written into.
func TestCommandsAreNotKept(t *testing.T) {
	for _, nodes := range [][]int{{1}, {1, 2}, {0, 1}, {0, 1, 2}} {
		n := node(t, 1, 0, 1, nodes...)
		for k := range 3 {
			c := cmd(k)
			c.Writes = append(c.Writes, api.Pair{Key: "behind"})[:2]
			m := msg(api.Forward, 0, 1, 1, k)
			m.Cmd = c
			var l []api.Msg
			if n.Head() {
				_, l, _ = n.Add(c)
			} else {
				l = n.Step(m)
			}
			if !plain.Cmd(c, cmd(k)) || c.Writes[:3][2].Key != "behind" {
				t.Errorf("what was handed in is %v", c.Writes[:3])
			}
			spoil(c)
			if nodes[len(nodes)-1] == 2 {
				told(t, "what was told", l, pass(1, 2, 1, k, k))
			}
		}
		has(t, n, 0, 1, 2)
	}
}

// P4: what comes out is the caller's.
func TestAnswersAreFresh(t *testing.T) {
	n := node(t, 1, 2, 1, 0, 1, 2)
	log := n.Log()
	spoil(log[0])
	if !plain.Cmd(log[1], cmd(1)) {
		t.Error("two lists of a log share memory")
	}
	clear(log[:cap(log)])
	has(t, n, 0, 1)

	l := n.Step(msg(api.Have, 2, 1, 1, 0))
	spoil(l[0].Cmd)
	told(t, "the other one", l[1:], pass(1, 2, 1, 1, 1))
	spoilAll(l)
	has(t, n, 0, 1)
	spoilAll(n.Step(pass(0, 1, 1, 2, 2)))
	has(t, n, 0, 1, 2)

	head := node(t, 1, 0, 1, 1, 2)
	_, l, _ = head.Add(cmd(0))
	spoilAll(l)
	has(t, head, 0)
	spoilAll(head.Tick())
	spoilAll(become(t, head, 2, 1, 3))
	told(t, "Tick", head.Tick(), msg(api.Sync, 1, 3, 2, 1))
}

// P4: what was told stays, whatever becomes of the node.
func TestAnswersStay(t *testing.T) {
	n := node(t, 1, 2, 1, 0, 1, 2)
	log := n.Log()
	all := n.Step(msg(api.Have, 2, 1, 1, 0))
	one := give(t, n, 2)
	give(t, n, 3)
	become(t, n, 2, 0, 2)
	become(t, n, 3, 0, 1, 2)
	give(t, n, 7)
	give(t, n, 8)
	if !plain.Log(log, []api.Cmd{cmd(0), cmd(1)}) {
		t.Errorf("a log that was told is %v", log)
	}
	told(t, "what was told", all, pass(1, 2, 1, 0, 0), pass(1, 2, 1, 1, 1))
	told(t, "what was told", one, pass(1, 2, 1, 2, 2))
}

// P4: two nodes have nothing of each other, also of one number.
func TestNodesAreApart(t *testing.T) {
	a, b := New(1), New(1)
	become(t, a, 1, 1)
	give(t, a, 0)
	count(t, "Epoch", b.Epoch(), 0)
	state(t, b, false, false, false, 0, 0)
	become(t, b, 5, 1, 2)
	give(t, b, 7)
	has(t, a, 0)
	has(t, b, 7)
	count(t, "Epoch", a.Epoch(), 1)
}

// P2: a message that is no Forward has no command; one that came with it is not looked at.
func TestCommandsOfOthers(t *testing.T) {
	n := node(t, 2, 2, 1, 1, 2, 3)
	m := pass(1, 2, 1, 0, 9)
	m.Kind = api.Sync
	told(t, "Sync with a command", n.Step(m), msg(api.Have, 2, 1, 1, 2))
	m = pass(3, 2, 1, 1, 9)
	m.Kind = api.Have
	told(t, "Have with a command", n.Step(m), pass(2, 3, 1, 1, 1))
	m.Kind = api.Stable
	told(t, "Stable with a command", n.Step(m), msg(api.Stable, 2, 1, 1, 1))
	has(t, n, 0, 1)
}
