package chain

import (
	"math"
	"testing"

	"chainmail/api"
	"chainmail/plain"
)

// is checks that an error is that one, without a place.
func is(t *testing.T, what string, err error, want api.Errno) {
	t.Helper()
	if e, bare := plain.Bare(err); e != want || !bare {
		t.Errorf("%s: error %v, want %v", what, err, want)
	}
}

// count checks a number that was told.
func count(t *testing.T, what string, got, want int) {
	t.Helper()
	if got != want {
		t.Errorf("%s: %d, want %d", what, got, want)
	}
}

// told checks which messages were told.
func told(t *testing.T, what string, got []api.Msg, want ...api.Msg) {
	t.Helper()
	if len(got) != len(want) {
		t.Errorf("%s: told %v, want %v", what, got, want)
		return
	}
	for i := range want {
		if !plain.Msg(got[i], want[i]) {
			t.Errorf("%s: message %d is %v, want %v", what, i, got[i], want[i])
		}
	}
}

// state checks where a node stands, how long its log is, and how much of it is stable.
func state(t *testing.T, n *Node, in, head, tail bool, long, stable int) {
	t.Helper()
	if n.In() != in || n.Head() != head || n.Tail() != tail {
		t.Errorf("node %d: In %v, Head %v, Tail %v, want %v, %v, %v", n.Id(), n.In(), n.Head(), n.Tail(), in, head, tail)
	}
	length(t, n, long, stable)
}

// length checks how long a node's log is, and how much of it is stable.
func length(t *testing.T, n *Node, long, stable int) {
	t.Helper()
	count(t, "Len", n.Len(), long)
	count(t, "how many commands Log has", len(n.Log()), long)
	count(t, "Stable", n.Stable(), stable)
}

// has checks that a node's log has those transactions' commands.
func has(t *testing.T, n *Node, txs ...int) {
	t.Helper()
	var want []api.Cmd
	for _, tx := range txs {
		want = append(want, cmd(tx))
	}
	if got := n.Log(); !plain.Log(got, want) {
		t.Errorf("node %d: Log %v, want %v", n.Id(), got, want)
	}
}

// cmd is a command that is told from those of other transactions.
func cmd(tx int) api.Cmd {
	return api.Cmd{Kind: api.Prepare, Tx: tx, Time: 2 * tx, Writes: []api.Pair{{Key: "a", Value: "x"}, {Key: "b", Gone: true}}}
}

// msg is a message without a command; pass is one that has that of a transaction.
func msg(kind, from, to, epoch, n int) api.Msg {
	return api.Msg{Kind: kind, From: from, To: to, Epoch: epoch, N: n}
}

func pass(from, to, epoch, n, tx int) api.Msg {
	m := msg(api.Forward, from, to, epoch, n)
	m.Cmd = cmd(tx)
	return m
}

// become has a node take a configuration that must be taken.
func become(t *testing.T, n *Node, epoch int, nodes ...int) []api.Msg {
	t.Helper()
	l, err := n.Become(api.Config{Epoch: epoch, Nodes: nodes})
	is(t, "Become", err, api.OK)
	count(t, "Epoch", n.Epoch(), epoch)
	return l
}

// node is one that has a configuration and so many commands, of transactions 0, 1, ..
func node(t *testing.T, id, many, epoch int, nodes ...int) *Node {
	t.Helper()
	n := New(id)
	become(t, n, epoch, nodes...)
	for tx := range many {
		give(t, n, tx)
	}
	count(t, "Len", n.Len(), many)
	return n
}

// give puts a command at the end of a node's log in the way that it takes one.
func give(t *testing.T, n *Node, tx int) []api.Msg {
	t.Helper()
	if !n.Head() {
		from, _ := n.neighbour(ahead)
		return n.Step(pass(from, n.Id(), n.Epoch(), n.Len(), tx))
	}
	number, l, err := n.Add(cmd(tx))
	is(t, "Add", err, api.OK)
	count(t, "a command's number", number, n.Len()-1)
	return l
}

// 4.1: a node has no configuration at first: Epoch 0; it is not In; its log is empty.
func TestNew(t *testing.T) {
	for _, id := range []int{0, 1, 7, -1, api.MaxNumber + 1, math.MinInt, math.MaxInt} {
		n := New(id)
		count(t, "Id", n.Id(), id)
		count(t, "Epoch", n.Epoch(), 0)
		state(t, n, false, false, false, 0, 0)
		told(t, "Tick", n.Tick())
		number, l, err := n.Add(cmd(1))
		is(t, "Add", err, api.ErrState)
		count(t, "Add's number", number, 0)
		told(t, "Add", l)
		for kind := range 6 {
			told(t, "Step", n.Step(pass(id, id, 0, 0, kind)))
			m := pass(1, id, 0, 0, 1)
			m.Kind = kind
			told(t, "Step", n.Step(m))
		}
		state(t, n, false, false, false, 0, 0)
	}
}

// 4.1: In, Head, Tail: one of the configuration's nodes, the first, the last one; from a chain of one node to one of MaxNodes.
func TestPlaces(t *testing.T) {
	ids := []int{5, 0, -3, 9, math.MaxInt, 2, 7}
	for many := 1; many <= api.MaxNodes; many++ {
		for i, id := range ids {
			n := New(id)
			become(t, n, 1, ids[:many]...)
			state(t, n, i < many, i == 0, i == many-1, 0, 0)
		}
	}
}

// 4.1: a node whose number is 0 is In only if 0 is there.
func TestNumberNought(t *testing.T) {
	n := New(0)
	told(t, "Become", become(t, n, 1, 1, 2))
	state(t, n, false, false, false, 0, 0)
	told(t, "Become", become(t, n, 2, 0, 2), msg(api.Sync, 0, 2, 2, 0))
	state(t, n, true, true, false, 0, 0)
}

// 4.2: Become: ErrOrder, unless the Epoch is above its own.
func TestBecomeOrder(t *testing.T) {
	n := New(1)
	for _, epoch := range []int{0, -1, math.MinInt} {
		l, err := n.Become(api.Config{Epoch: epoch, Nodes: []int{1, 2}})
		is(t, "Become", err, api.ErrOrder)
		told(t, "Become", l)
		count(t, "Epoch", n.Epoch(), 0)
		state(t, n, false, false, false, 0, 0)
	}
	become(t, n, 5, 1, 2)
	give(t, n, 1)
	for _, epoch := range []int{5, 4, 1, 0, -1, math.MinInt} {
		l, err := n.Become(api.Config{Epoch: epoch, Nodes: []int{2, 1}})
		is(t, "Become", err, api.ErrOrder)
		told(t, "Become", l)
		count(t, "Epoch", n.Epoch(), 5)
		state(t, n, true, true, false, 1, 0)
	}
	become(t, n, 6, 1, 2)
	become(t, n, api.MaxNumber+1, 1, 2)
	become(t, n, math.MaxInt, 1, 2)
	_, err := n.Become(api.Config{Epoch: math.MaxInt, Nodes: []int{1}})
	is(t, "Become", err, api.ErrOrder)
	has(t, n, 1)
}

// wrong are lists that are no configuration's.
func wrong() [][]int {
	return [][]int{
		nil, {}, {1, 2, 3, 4, 5, 6, 7}, {1, 1, 1, 1, 1, 1, 1}, make([]int, 1000),
		{1, 1}, {2, 2}, {1, 2, 1}, {2, 3, 3}, {2, 2, 3}, {1, 2, 3, 4, 5, 1}, {0, 0}, {-1, 5, -1},
	}
}

// 4.2: Become: ErrArg, unless there are 1 to MaxNodes nodes, none twice; nothing is changed then.
func TestBecomeWrongNodes(t *testing.T) {
	for _, nodes := range wrong() {
		n := node(t, 1, 2, 3, 1, 2)
		l, err := n.Become(api.Config{Epoch: 4, Nodes: nodes})
		is(t, "Become", err, api.ErrArg)
		told(t, "Become", l)
		count(t, "Epoch", n.Epoch(), 3)
		state(t, n, true, true, false, 2, 0)
		told(t, "Tick", n.Tick(), msg(api.Sync, 1, 2, 3, 2))
		has(t, n, 0, 1)
		become(t, n, 4, 1, 2)

		fresh := New(1)
		_, err = fresh.Become(api.Config{Epoch: 1, Nodes: nodes})
		is(t, "Become", err, api.ErrArg)
		count(t, "Epoch", fresh.Epoch(), 0)
		state(t, fresh, false, false, false, 0, 0)
	}
}

// 4.2, P3: of both that is told which is told first.
func TestBecomeBothWrong(t *testing.T) {
	for _, nodes := range wrong() {
		n := node(t, 1, 0, 3, 1, 2)
		for _, epoch := range []int{3, 0, -1} {
			_, err := n.Become(api.Config{Epoch: epoch, Nodes: nodes})
			is(t, "Become", err, api.ErrOrder)
		}
	}
}

// 4.2: Become tells what Tick tells.
func TestBecomeTells(t *testing.T) {
	told(t, "head", become(t, New(1), 2, 1, 2, 3), msg(api.Sync, 1, 2, 2, 0))
	told(t, "middle", become(t, New(2), 2, 1, 2, 3), msg(api.Sync, 2, 3, 2, 0))
	told(t, "tail", become(t, New(3), 2, 1, 2, 3), msg(api.Stable, 3, 2, 2, 0))
	told(t, "not In", become(t, New(4), 2, 1, 2, 3))
	told(t, "alone", become(t, New(1), 2, 1))

	told(t, "head", become(t, node(t, 1, 2, 1, 1, 2), 2, 1, 3), msg(api.Sync, 1, 3, 2, 2))
	told(t, "middle", become(t, node(t, 2, 2, 1, 1, 2), 2, 1, 2, 3), msg(api.Sync, 2, 3, 2, 2))
	told(t, "tail", become(t, node(t, 2, 2, 1, 1, 2), 2, 5, 2), msg(api.Stable, 2, 5, 2, 2))
	told(t, "not In", become(t, node(t, 2, 2, 1, 1, 2), 2, 1, 3))
	told(t, "alone", become(t, node(t, 2, 2, 1, 1, 2), 2, 2))
}

// 4.2: who was In, and is, keeps its log, and what is stable; who is the Tail now has all of it stable.
func TestBecomeKeeps(t *testing.T) {
	n := node(t, 2, 3, 1, 1, 2, 3)
	n.Step(msg(api.Stable, 3, 2, 1, 1))
	length(t, n, 3, 1)
	become(t, n, 2, 2, 3)
	state(t, n, true, true, false, 3, 1)
	give(t, n, 3)
	become(t, n, 3, 1, 2, 4)
	state(t, n, true, false, false, 4, 1)
	become(t, n, 4, 1, 2)
	state(t, n, true, false, true, 4, 4)
	become(t, n, 5, 1, 2, 3)
	state(t, n, true, false, false, 4, 4)
	has(t, n, 0, 1, 2, 3)
	give(t, n, 4)
	length(t, n, 5, 4)
	become(t, n, 6, 2)
	state(t, n, true, true, true, 5, 5)
	has(t, n, 0, 1, 2, 3, 4)
}

// 4.2: a node that leaves has its log still; when it comes in again that is empty.
func TestLeavesAndComesInAgain(t *testing.T) {
	n := node(t, 2, 3, 1, 1, 2)
	length(t, n, 3, 3)
	told(t, "leaves", become(t, n, 2, 1, 3))
	state(t, n, false, false, false, 3, 3)
	told(t, "is not In yet", become(t, n, 3, 1))
	state(t, n, false, false, false, 3, 3)
	has(t, n, 0, 1, 2)
	told(t, "Tick", n.Tick())
	_, _, err := n.Add(cmd(9))
	is(t, "Add", err, api.ErrState)
	for kind := range 6 {
		m := pass(1, 2, 3, 3, 9)
		m.Kind = kind
		told(t, "Step", n.Step(m))
	}
	has(t, n, 0, 1, 2)

	_, err = n.Become(api.Config{Epoch: 4, Nodes: []int{2, 2}})
	is(t, "Become", err, api.ErrArg)
	has(t, n, 0, 1, 2)
	told(t, "comes in", become(t, n, 4, 1, 2, 3), msg(api.Sync, 2, 3, 4, 0))
	state(t, n, true, false, false, 0, 0)
	give(t, n, 7)
	has(t, n, 7)
	told(t, "is In still", become(t, n, 5, 1, 2), msg(api.Stable, 2, 1, 5, 1))
	has(t, n, 7)
}

// 4.2: who comes in again as the Tail, or alone, has an empty log, too.
func TestComesInAsTail(t *testing.T) {
	n := node(t, 2, 3, 1, 1, 2)
	become(t, n, 2, 1)
	told(t, "comes in", become(t, n, 3, 1, 2), msg(api.Stable, 2, 1, 3, 0))
	state(t, n, true, false, true, 0, 0)
	give(t, n, 5)
	become(t, n, 4, 1)
	told(t, "comes in", become(t, n, 5, 2))
	state(t, n, true, true, true, 0, 0)
}

// 4.2: Tick: of who is not In nothing; of the Tail Stable to the one ahead; of all others Sync to the next one.
func TestTick(t *testing.T) {
	nodes := []int{11, 12, 13, 14, 15, 16}
	for i, id := range nodes {
		n := node(t, id, 4, 3, nodes...)
		for range 3 {
			l := n.Tick()
			if i < len(nodes)-1 {
				told(t, "Tick", l, msg(api.Sync, id, id+1, 3, 4))
				length(t, n, 4, 0)
				continue
			}
			told(t, "Tick of the Tail", l, msg(api.Stable, id, id-1, 3, 4))
			length(t, n, 4, 4)
		}
	}
	alone := node(t, 11, 4, 3, 11)
	told(t, "Tick of one alone", alone.Tick())
	length(t, alone, 4, 4)
}
