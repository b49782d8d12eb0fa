package net

import (
	"testing"

	"chainmail/api"
	"chainmail/plain"
)

// spoil writes into all of a message's list, also behind its length.
func spoil(m api.Msg) {
	l := m.Cmd.Writes[:cap(m.Cmd.Writes)]
	for i := range l {
		l[i] = api.Pair{Key: "spoilt"}
	}
}

// good checks that all that is under way is as rich.
func good(t *testing.T, what string, n *Net, many int) {
	t.Helper()
	all := n.All()
	count(t, what, len(all), many)
	for i, m := range all {
		if !plain.Msg(m, rich()) {
			t.Errorf("%s: message %d is %v", what, i, m)
		}
	}
}

// P4: no list that is handed in is kept.
func TestNothingHandedInIsKept(t *testing.T) {
	l := []api.Msg{rich(), rich()}
	var n Net
	n.Send(l...)
	spoil(l[0])
	spoil(l[1])
	clear(l)
	good(t, "what was sent is spoilt", &n, 2)
}

// P4: no list that is handed in is written into, nor what stands behind its length.
func TestNothingHandedInIsChanged(t *testing.T) {
	l := []api.Msg{rich(), rich(), rich(), rich()}
	pairs := rich().Cmd.Writes
	l[0].Cmd.Writes = pairs[:1]
	var n Net
	n.Send(l[:2]...)
	n.Twice(0)
	n.Send(note(3, 4, 1))
	n.Down(3)
	n.Take(0)
	n.Lose(0)
	n.Down(1)
	n.Send(l[:3]...)
	l[0].Cmd.Writes = pairs
	for i, m := range l {
		if !plain.Msg(m, rich()) {
			t.Errorf("message %d that was handed in is %v", i, m)
		}
	}
}

// P4: what comes out is the caller's.
func TestAnswersAreFresh(t *testing.T) {
	var n Net
	n.Send(rich(), rich(), rich())
	all := n.All()
	for _, m := range all {
		spoil(m)
	}
	clear(all[:cap(all)])
	good(t, "what All told is spoilt", &n, 3)

	again := n.All()
	spoil(again[0])
	if !plain.Msg(again[1], rich()) {
		t.Error("two lists of an answer share memory")
	}
	m, _ := n.Take(1)
	spoil(m)
	good(t, "what Take told is spoilt", &n, 2)
}

// P4: what was told stays, whatever becomes of the Net.
func TestAnswersStay(t *testing.T) {
	var n Net
	n.Send(rich(), rich(), rich())
	all := n.All()
	m, _ := n.Take(0)
	n.Down(2)
	n.Send(note(5, 6, 1), note(5, 6, 2), note(5, 6, 3))
	for i, told := range append(all, m) {
		if !plain.Msg(told, rich()) {
			t.Errorf("message %d that was told is %v", i, told)
		}
	}
}

// P4: a message that was sent twice comes out twice, each with a list of its own.
func TestTwiceSharesNothing(t *testing.T) {
	for _, k := range []int{0, 1} {
		var n Net
		n.Send(rich())
		n.Twice(0)
		m, _ := n.Take(k)
		spoil(m)
		good(t, "the other one is spoilt", &n, 1)
	}
}

// 2.1: however it goes on, whatever was sent is under way, was taken or is lost.
func TestNothingVanishes(t *testing.T) {
	var n Net
	var sent, taken, lost int
	for i := range 5000 {
		k := i * 7 % (n.Many() + 2)
		switch i % 11 {
		case 3, 7:
			if _, err := n.Take(k); err == nil {
				taken++
			}
		case 5:
			if n.Lose(k) == nil {
				lost++
			}
		case 8:
			if n.Twice(k) == nil {
				sent++
			}
		case 10:
			if i%700 == 10 {
				lost += n.Down(i % 9)
			}
		default:
			sent++
			lost += n.Send(note(i%9, i%13, i))
		}
		if n.Many() > api.MaxFlight || sent != n.Many()+taken+lost || n.Lost() != lost || len(n.All()) != n.Many() {
			t.Fatalf("step %d: %d sent, %d under way, %d taken, %d lost (%d told)", i, sent, n.Many(), taken, lost, n.Lost())
		}
	}
}
