package net

import (
	"math"
	"testing"

	"chainmail/api"
)

// crowd has messages among 1, 2 and 3, with numbers from 10 on.
func crowd() *Net {
	var n Net
	n.Send(note(1, 2, 10), note(2, 3, 11), note(3, 1, 12), note(1, 1, 13), note(3, 3, 14), note(2, 1, 15))
	return &n
}

// 2.1: what is under way From or To who goes down is lost, once each: how many.
func TestDownLosesWhatIsUnderWay(t *testing.T) {
	n := crowd()
	count(t, "Down", n.Down(1), 4)
	state(t, "1 is down", n, 4, 11, 14)
	count(t, "Down", n.Down(2), 1)
	state(t, "2 is down", n, 5, 14)
	count(t, "Down", n.Down(3), 1)
	state(t, "3 is down", n, 6)
}

// 2.1: who is down is down for ever: what is sent From or To them is lost.
func TestDownIsForEver(t *testing.T) {
	n := crowd()
	n.Down(2)
	state(t, "2 is down", n, 3, 12, 13, 14)
	count(t, "from it", n.Send(note(2, 1, 20)), 1)
	count(t, "to it", n.Send(note(1, 2, 21)), 1)
	count(t, "from it to it", n.Send(note(2, 2, 22)), 1)
	count(t, "among others", n.Send(note(1, 3, 23), note(2, 3, 24), note(3, 1, 25)), 1)
	state(t, "2 is down", n, 7, 12, 13, 14, 23, 25)
	count(t, "down again", n.Down(2), 0)
	for range 3 {
		n.Take(0)
	}
	count(t, "from it", n.Send(note(2, 1, 26)), 1)
	state(t, "still down", n, 8, 23, 25)
}

// 2.1: several are down at the same time.
func TestManyAreDown(t *testing.T) {
	var n Net
	for id := range 50 {
		count(t, "Down", n.Down(id), 0)
	}
	for id := range 50 {
		count(t, "from it", n.Send(note(id, 60, id)), 1)
		count(t, "to it", n.Send(note(60, id, id)), 1)
	}
	count(t, "among others", n.Send(note(60, 61, 7)), 0)
	state(t, "one is left", &n, 100, 7)
}

// 2.1: whoever has that number is down, whatever number it is; nobody else is.
func TestDownOfAnyNumber(t *testing.T) {
	for _, id := range []int{0, -1, 1, api.MaxNodes + 1, api.MaxNumber + 1, math.MaxInt, math.MinInt} {
		var n Net
		n.Send(note(id, 5, 1), note(5, id, 2), note(5, 6, 3), note(id^1, 5, 4))
		count(t, "Down", n.Down(id), 2)
		state(t, "is down", &n, 2, 3, 4)
		count(t, "Send", n.Send(note(id, 5, 5), note(5, id, 6), note(id^1, 5, 7)), 2)
		state(t, "is down", &n, 4, 3, 4, 7)
	}
}

// 2.1: it is From and To that tell whose a message is, nothing else.
func TestDownLooksAtFromAndToAlone(t *testing.T) {
	var n Net
	m := api.Msg{Kind: 7, From: 1, To: 2, Epoch: 7, N: 7, Cmd: api.Cmd{Kind: 7, Tx: 7, Time: 7}}
	n.Send(m)
	count(t, "Down", n.Down(7), 0)
	count(t, "Send", n.Send(m), 0)
	state(t, "none is lost", &n, 0, 7, 7)
}

// 2.1: what is lost by Down leaves room, and what Twice sent is lost by it too.
func TestDownWhenFull(t *testing.T) {
	n := notes(api.MaxFlight / 2)
	for k := range api.MaxFlight / 2 {
		is(t, "Twice", n.Twice(k), api.OK)
	}
	count(t, "no room", n.Send(note(3, 4, 1)), 1)
	count(t, "Down", n.Down(2), api.MaxFlight)
	state(t, "all are lost", n, api.MaxFlight+1)
	count(t, "room", n.Send(note(3, 4, 1)), 0)
	state(t, "one", n, api.MaxFlight+1, 1)
}

// P4: one Net knows nothing of another one.
func TestNetsAreApart(t *testing.T) {
	a, b := crowd(), crowd()
	a.Down(1)
	a.Lose(0)
	count(t, "Send", b.Send(note(1, 2, 16)), 0)
	state(t, "the other one", b, 0, 10, 11, 12, 13, 14, 15, 16)
}
