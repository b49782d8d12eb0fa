package chain

import (
	"math"
	"testing"

	"chainmail/api"
)

// 4.3: Add: ErrState, unless it is the Head.
func TestAddState(t *testing.T) {
	for _, id := range []int{2, 3, 4} {
		n := New(id)
		become(t, n, 1, 1, 2, 3)
		number, l, err := n.Add(cmd(1))
		is(t, "Add", err, api.ErrState)
		count(t, "number", number, 0)
		told(t, "Add", l)
		length(t, n, 0, 0)
	}
	left := node(t, 1, 2, 1, 1, 2)
	become(t, left, 2, 2)
	_, _, err := left.Add(cmd(9))
	is(t, "Add of one that left", err, api.ErrState)
	has(t, left, 0, 1)
}

// 4.3: numbers are from 0 on; the Head forwards what it adds, and nothing of it is stable.
func TestAdd(t *testing.T) {
	n := New(1)
	become(t, n, 4, 1, 2)
	for k := range 5 {
		number, l, err := n.Add(cmd(10 + k))
		is(t, "Add", err, api.OK)
		count(t, "number", number, k)
		told(t, "Add", l, pass(1, 2, 4, k, 10+k))
		length(t, n, k+1, 0)
	}
	has(t, n, 10, 11, 12, 13, 14)
}

// 4.3: a Head that is the Tail tells what Tick tells: nothing; all is stable.
func TestAddAlone(t *testing.T) {
	n := New(1)
	become(t, n, 1, 1)
	for k := range 3 {
		number, l, err := n.Add(cmd(k))
		is(t, "Add", err, api.OK)
		count(t, "number", number, k)
		told(t, "Add", l)
		length(t, n, k+1, k+1)
	}
	has(t, n, 0, 1, 2)
}

// 4.3: numbers go on behind what the log has when it becomes the Head.
func TestAddGoesOn(t *testing.T) {
	n := node(t, 2, 3, 1, 1, 2)
	become(t, n, 2, 2, 3)
	number, l, err := n.Add(cmd(3))
	is(t, "Add", err, api.OK)
	count(t, "number", number, 3)
	told(t, "Add", l, pass(2, 3, 2, 3, 3))
	length(t, n, 4, 3)
}

// 4.3: any command is taken as it is.
func TestAddAnyCommand(t *testing.T) {
	n := New(1)
	become(t, n, 1, 1, 2)
	l := []api.Cmd{{}, {Kind: -1}, {Kind: 9, Tx: -1, Time: math.MaxInt}, {Writes: make([]api.Pair, 21)}, {Writes: []api.Pair{}}}
	for k, c := range l {
		number, out, err := n.Add(c)
		is(t, "Add", err, api.OK)
		count(t, "number", number, k)
		want := msg(api.Forward, 1, 2, 1, k)
		want.Cmd = c
		told(t, "Add", out, want)
	}
	length(t, n, len(l), 0)
}

// 4.3: ErrLimit, if its log has MaxLog.
func TestAddLimit(t *testing.T) {
	for _, nodes := range [][]int{{1}, {1, 2}} {
		n := node(t, 1, api.MaxLog-1, 1, nodes...)
		number, _, err := n.Add(cmd(499))
		is(t, "Add", err, api.OK)
		count(t, "number", number, api.MaxLog-1)
		for range 2 {
			stable := n.Stable()
			number, l, err := n.Add(cmd(500))
			is(t, "Add", err, api.ErrLimit)
			count(t, "number", number, 0)
			told(t, "Add", l)
			length(t, n, api.MaxLog, stable)
		}
		become(t, n, 2, 2, 1)
		_, _, err = n.Add(cmd(500))
		is(t, "Add", err, api.ErrState) // told ahead of ErrLimit
	}
}

// 4.4: Sync, of the one ahead: Have to it, whatever N is.
func TestSync(t *testing.T) {
	for many := range 3 {
		for _, nodes := range [][]int{{1, 2}, {1, 2, 3}} {
			n := node(t, 2, many, 7, nodes...)
			stable := n.Stable()
			for _, k := range []int{0, many, many + 5, -1, math.MinInt, math.MaxInt} {
				told(t, "Sync", n.Step(msg(api.Sync, 1, 2, 7, k)), msg(api.Have, 2, 1, 7, many))
				length(t, n, many, stable)
			}
		}
	}
}

// 4.4: Have, of the next one: Forward of each command from N on, in order; none, if N is at the log's length or above.
func TestHave(t *testing.T) {
	for _, nodes := range [][]int{{1, 2, 3}, {2, 3}} {
		n := node(t, 2, 4, 7, nodes...)
		for from := range 4 {
			var want []api.Msg
			for k := from; k < 4; k++ {
				want = append(want, pass(2, 3, 7, k, k))
			}
			told(t, "Have", n.Step(msg(api.Have, 3, 2, 7, from)), want...)
		}
		for _, k := range []int{4, 5, api.MaxLog, math.MaxInt, -1, -4, math.MinInt} {
			told(t, "Have", n.Step(msg(api.Have, 3, 2, 7, k)))
		}
		length(t, n, 4, 0)
	}
	empty := node(t, 1, 0, 1, 1, 2)
	told(t, "Have", empty.Step(msg(api.Have, 2, 1, 1, 0)))
}

// 4.4: Have of 0 with a log of MaxLog: all of them.
func TestHaveAll(t *testing.T) {
	n := node(t, 1, api.MaxLog, 1, 1, 2)
	var want []api.Msg
	for k := range api.MaxLog {
		want = append(want, pass(1, 2, 1, k, k))
	}
	told(t, "Have", n.Step(msg(api.Have, 2, 1, 1, 0)), want...)
	told(t, "Have", n.Step(msg(api.Have, 2, 1, 1, api.MaxLog-1)), want[api.MaxLog-1])
	told(t, "Have", n.Step(msg(api.Have, 2, 1, 1, api.MaxLog)))
}

// 4.4: Forward, of the one ahead, N just how many there are: it is at the log's end; who is not the Tail forwards it.
func TestForward(t *testing.T) {
	n := node(t, 2, 0, 7, 1, 2, 3)
	for k := range 4 {
		for _, other := range []int{k - 1, k + 1, -1, math.MinInt, math.MaxInt} {
			told(t, "Forward of another number", n.Step(pass(1, 2, 7, other, 99)))
			length(t, n, k, 0)
		}
		told(t, "Forward", n.Step(pass(1, 2, 7, k, k)), pass(2, 3, 7, k, k))
		length(t, n, k+1, 0)
	}
	told(t, "Forward once more", n.Step(pass(1, 2, 7, 3, 3)))
	has(t, n, 0, 1, 2, 3)
}

// 4.4: the Tail tells of a Forward what Tick tells: all is stable.
func TestForwardToTail(t *testing.T) {
	n := node(t, 3, 0, 7, 1, 2, 3)
	for k := range 4 {
		told(t, "Forward", n.Step(pass(2, 3, 7, k, k)), msg(api.Stable, 3, 2, 7, k+1))
		length(t, n, k+1, k+1)
		told(t, "Forward once more", n.Step(pass(2, 3, 7, k, k)))
		told(t, "Forward too early", n.Step(pass(2, 3, 7, k+2, k+2)))
		length(t, n, k+1, k+1)
	}
	has(t, n, 0, 1, 2, 3)
}

// 4.4: Forward with a log of MaxLog is nothing.
func TestForwardLimit(t *testing.T) {
	for _, nodes := range [][]int{{1, 2}, {1, 2, 3}} {
		n := node(t, 2, api.MaxLog-1, 1, nodes...)
		count(t, "what the last one tells", len(n.Step(pass(1, 2, 1, api.MaxLog-1, 1))), 1)
		stable := n.Stable()
		for _, k := range []int{api.MaxLog - 1, api.MaxLog, api.MaxLog + 1} {
			told(t, "Forward", n.Step(pass(1, 2, 1, k, 1)))
			length(t, n, api.MaxLog, stable)
		}
		told(t, "Sync", n.Step(msg(api.Sync, 1, 2, 1, 0)), msg(api.Have, 2, 1, 1, api.MaxLog))
	}
}

// 4.4: Stable, of the next one, N from 0 to the log's length: so many are, or as many as were; it is told the one ahead.
func TestStable(t *testing.T) {
	n := node(t, 2, 4, 7, 1, 2, 3)
	for _, c := range []struct{ n, stable int }{{0, 0}, {1, 1}, {1, 1}, {0, 1}, {3, 3}, {2, 3}, {0, 3}, {4, 4}, {1, 4}, {4, 4}} {
		told(t, "Stable", n.Step(msg(api.Stable, 3, 2, 7, c.n)), msg(api.Stable, 2, 1, 7, c.stable))
		length(t, n, 4, c.stable)
	}
	has(t, n, 0, 1, 2, 3)
}

// 4.4: Stable with N below 0, or above the log's length, is nothing.
func TestStableWrong(t *testing.T) {
	for _, nodes := range [][]int{{1, 2, 3}, {2, 3}} {
		n := node(t, 2, 4, 7, nodes...)
		n.Step(msg(api.Stable, 3, 2, 7, 2))
		for _, k := range []int{5, 6, api.MaxLog, math.MaxInt, -1, -4, math.MinInt} {
			told(t, "Stable", n.Step(msg(api.Stable, 3, 2, 7, k)))
			length(t, n, 4, 2)
		}
	}
}

// 4.4: the Head has nobody ahead whom it could tell.
func TestStableAtHead(t *testing.T) {
	n := node(t, 1, 4, 7, 1, 2)
	for _, k := range []int{0, 3, 4} {
		told(t, "Stable", n.Step(msg(api.Stable, 2, 1, 7, k)))
		length(t, n, 4, k)
	}
}

// good are messages that each do something at node 3 of 1 to 6 with 2 commands.
func good() []api.Msg {
	return []api.Msg{msg(api.Sync, 2, 3, 5, 0), msg(api.Have, 4, 3, 5, 0), pass(2, 3, 5, 2, 9), msg(api.Stable, 4, 3, 5, 1)}
}

// nothing checks that a message does nothing at a node of which 0 of 2 commands are stable, and tells nothing.
func nothing(t *testing.T, what string, n *Node, m api.Msg) {
	t.Helper()
	told(t, what, n.Step(m))
	length(t, n, 2, 0)
	has(t, n, 0, 1)
}

// 4.4: with a message of another Epoch, or not To it, or of no neighbour that sends such ones, nothing is done.
func TestStepNothing(t *testing.T) {
	for _, m := range good() {
		n := node(t, 3, 2, 5, 1, 2, 3, 4, 5, 6)
		for _, epoch := range []int{4, 6, 0, -5, math.MinInt, math.MaxInt} {
			x := m
			x.Epoch = epoch
			nothing(t, "another Epoch", n, x)
		}
		for _, to := range []int{1, 2, 4, 5, 6, 7, 0, -3, math.MaxInt} {
			x := m
			x.To = to
			nothing(t, "To another one", n, x)
		}
		for _, from := range []int{1, 2, 3, 4, 5, 6, 7, 0, -2, math.MaxInt} {
			x := m
			x.From = from
			if from != m.From {
				nothing(t, "From another one", n, x)
			}
		}
		for _, kind := range []int{0, -1, 5, 6, 8, m.Kind + 256, m.Kind - 8, math.MinInt, math.MaxInt} {
			x := m
			x.Kind = kind
			nothing(t, "no known Kind", n, x)
		}
		if len(n.Step(m)) == 0 {
			t.Errorf("%v told nothing", m)
		}
	}
}

// 4.4: each Kind comes from one side alone.
func TestStepSides(t *testing.T) {
	n := node(t, 3, 2, 5, 1, 2, 3, 4, 5, 6)
	for _, m := range good() {
		for k := range 3 {
			m.From, m.N = 6-m.From, k
			nothing(t, "of the other side", n, m)
			m.From = 6 - m.From
		}
	}
}

// 4.4: the Head has nobody ahead, the Tail no next one, who is alone neither; who is not In neither.
func TestStepAtTheEnds(t *testing.T) {
	for _, from := range []int{-1, 0, 1, 2, 3, 4} {
		head := node(t, 1, 2, 5, 1, 2)
		nothing(t, "Sync to the Head", head, msg(api.Sync, from, 1, 5, 0))
		nothing(t, "Forward to the Head", head, pass(from, 1, 5, 2, 9))
		tail := node(t, 2, 2, 5, 1, 2)
		told(t, "Have to the Tail", tail.Step(msg(api.Have, from, 2, 5, 0)))
		told(t, "Stable to the Tail", tail.Step(msg(api.Stable, from, 2, 5, 1)))
		length(t, tail, 2, 2)
		alone := node(t, 1, 2, 5, 1)
		gone := node(t, 1, 2, 4, 1, 2)
		become(t, gone, 5, 2, 3)
		for kind := range 6 {
			m := pass(from, 1, 5, 2, 9)
			m.Kind = kind
			told(t, "to one alone", alone.Step(m))
			nothing(t, "to one that left", gone, m)
		}
		length(t, alone, 2, 2)
	}
}

// 4.4: what was sent in an earlier configuration is nothing in a later one, also if the neighbours are the same.
func TestLateMessages(t *testing.T) {
	n := node(t, 3, 2, 5, 1, 2, 3, 4, 5, 6)
	become(t, n, 6, 2, 3, 4)
	for _, m := range good() {
		nothing(t, "of an earlier Epoch", n, m)
		m.Epoch = 6
		if len(n.Step(m)) == 0 {
			t.Errorf("%v told nothing", m)
		}
		n = node(t, 3, 2, 5, 1, 2, 3, 4, 5, 6)
		become(t, n, 6, 2, 3, 4)
	}
}

// Nodes 1 and 2: what 1 adds it forwards; when 2 has it, it is stable there, and 1 is told.
func TestExample(t *testing.T) {
	one, two := node(t, 1, 0, 1, 1, 2), node(t, 2, 0, 1, 1, 2)
	_, l, _ := one.Add(cmd(1))
	told(t, "1 forwards", l, pass(1, 2, 1, 0, 1))
	l = two.Step(l[0])
	told(t, "2 tells", l, msg(api.Stable, 2, 1, 1, 1))
	length(t, two, 1, 1)
	length(t, one, 1, 0)
	told(t, "1 is told", one.Step(l[0]))
	length(t, one, 1, 1)
}
