package net

import (
	"math"
	"testing"

	"chainmail/api"
	"chainmail/plain"
)

// note is a message that is known by its number.
func note(from, to, number int) api.Msg {
	return api.Msg{Kind: api.Have, From: from, To: to, Epoch: 1, N: number}
}

// rich is a message in which every field is something.
func rich() api.Msg {
	return api.Msg{Kind: api.Forward, From: 1, To: 2, Epoch: 3, N: 4, Cmd: api.Cmd{
		Kind: api.Prepare, Tx: 5, Time: 6, Writes: []api.Pair{{Key: "a", Value: "x"}, {Key: "b", Gone: true}},
	}}
}

// notes has messages from 1 to 2, with numbers from 0 on.
func notes(many int) *Net {
	var n Net
	for i := range many {
		n.Send(note(1, 2, i))
	}
	return &n
}

// is checks that an error is that one, without a place.
func is(t *testing.T, what string, err error, want api.Errno) {
	t.Helper()
	if e, bare := plain.Bare(err); e != want || !bare {
		t.Errorf("%s: error %v, want %v", what, err, want)
	}
}

// count checks a number that was told.
func count(t *testing.T, what string, got, want int) {
	t.Helper()
	if got != want {
		t.Errorf("%s: %d, want %d", what, got, want)
	}
}

// state checks the numbers of the messages under way, and how many were lost.
func state(t *testing.T, what string, n *Net, lost int, numbers ...int) {
	t.Helper()
	all := n.All()
	var got []int
	for _, m := range all {
		got = append(got, m.N)
	}
	count(t, what+": Many", n.Many(), len(numbers))
	count(t, what+": Lost", n.Lost(), lost)
	if len(got) != len(numbers) {
		t.Errorf("%s: All has %v, want %v", what, got, numbers)
		return
	}
	for i := range got {
		if got[i] != numbers[i] {
			t.Errorf("%s: All has %v, want %v", what, got, numbers)
			return
		}
	}
}

// 2.1: a Net's zero value has no message under way, none was lost, and nobody is down.
func TestZeroValueIsEmpty(t *testing.T) {
	var n Net
	state(t, "at first", &n, 0)
	count(t, "Send", n.Send(note(0, 0, 1)), 0)
	state(t, "one to 0, of 0", &n, 0, 1)
}

// 2.1: messages are under way one behind the other, behind those sent ahead.
func TestSendIsInOrder(t *testing.T) {
	var n Net
	count(t, "none", n.Send(), 0)
	state(t, "none", &n, 0)
	count(t, "one", n.Send(note(1, 2, 7)), 0)
	count(t, "three", n.Send(note(2, 1, 3), note(1, 2, 9), note(1, 2, 1)), 0)
	state(t, "four", &n, 0, 7, 3, 9, 1)
	n.Send([]api.Msg{}...)
	state(t, "an empty list", &n, 0, 7, 3, 9, 1)
}

// 2.1: a message is under way as it was sent, whatever it is.
func TestMessagesAreAsSent(t *testing.T) {
	odd := api.Msg{Kind: -3, From: -1, To: math.MaxInt, Epoch: math.MinInt, N: -9, Cmd: api.Cmd{Kind: 99, Tx: -1, Time: -1, Writes: make([]api.Pair, 300)}}
	list := []api.Msg{rich(), odd, {}, rich()}
	var n Net
	count(t, "Send", n.Send(list...), 0)
	all := n.All()
	for i, want := range list {
		if !plain.Msg(all[i], want) {
			t.Errorf("All: message %d is %v, want %v", i, all[i], want)
		}
		got, err := n.Take(0)
		is(t, "Take", err, api.OK)
		if !plain.Msg(got, want) {
			t.Errorf("Take: message %d is %v, want %v", i, got, want)
		}
	}
}

// 2.1: MaxFlight have room; what is sent while they are under way is lost, and told.
func TestNoRoom(t *testing.T) {
	n := notes(api.MaxFlight - 1)
	count(t, "the last room, and two more", n.Send(note(1, 2, 500), note(1, 2, 501), note(1, 2, 502)), 2)
	count(t, "Many", n.Many(), api.MaxFlight)
	count(t, "Lost", n.Lost(), 2)
	count(t, "the last one", n.All()[api.MaxFlight-1].N, 500)
	count(t, "one more", n.Send(note(1, 2, 503)), 1)
	count(t, "Lost", n.Lost(), 3)

	n.Take(0)
	count(t, "room by Take", n.Send(note(1, 2, 504), note(1, 2, 505)), 1)
	n.Lose(0)
	count(t, "room by Lose", n.Send(note(1, 2, 506), note(1, 2, 507)), 1)
	count(t, "Many", n.Many(), api.MaxFlight)
	count(t, "Lost", n.Lost(), 6)
	count(t, "the last one", n.All()[api.MaxFlight-1].N, 506)
	n.Down(1)
	count(t, "room by Down", n.Send(note(3, 4, 508)), 0)
	state(t, "by Down", n, 6+api.MaxFlight, 508)
}

// 2.1: in one Send the room is what the messages ahead left: those that are lost need none.
func TestRoomIsToldOneByOne(t *testing.T) {
	n := notes(api.MaxFlight - 2)
	n.Down(9)
	got := n.Send(note(9, 1, 600), note(1, 2, 601), note(1, 9, 602), note(1, 2, 603), note(1, 2, 604), note(9, 9, 605))
	count(t, "Send", got, 4)
	all := n.All()
	count(t, "Many", len(all), api.MaxFlight)
	count(t, "the last but one", all[api.MaxFlight-2].N, 601)
	count(t, "the last one", all[api.MaxFlight-1].N, 603)
	count(t, "Lost", n.Lost(), 4)
}

// 2.1: Take tells the k-th one, from 0 on, which is under way no more; nothing is lost by it.
func TestTake(t *testing.T) {
	n := notes(5)
	for _, c := range []struct{ k, want int }{{2, 2}, {3, 4}, {0, 0}, {1, 3}, {0, 1}} {
		m, err := n.Take(c.k)
		is(t, "Take", err, api.OK)
		count(t, "Take", m.N, c.want)
	}
	state(t, "all taken", n, 0)
	n = notes(4)
	n.Take(1)
	state(t, "one taken", n, 0, 0, 2, 3)
}

// 2.1: Lose loses the k-th one.
func TestLose(t *testing.T) {
	n := notes(5)
	is(t, "the last one", n.Lose(4), api.OK)
	state(t, "the last one", n, 1, 0, 1, 2, 3)
	is(t, "the first one", n.Lose(0), api.OK)
	state(t, "the first one", n, 2, 1, 2, 3)
	is(t, "one between", n.Lose(1), api.OK)
	state(t, "one between", n, 3, 1, 3)
}

// 2.1: Twice sends the k-th one once more, behind all others; it stays where it is.
func TestTwice(t *testing.T) {
	n := notes(3)
	is(t, "the first one", n.Twice(0), api.OK)
	state(t, "the first one", n, 0, 0, 1, 2, 0)
	is(t, "one between", n.Twice(1), api.OK)
	state(t, "one between", n, 0, 0, 1, 2, 0, 1)
	is(t, "the last one", n.Twice(4), api.OK)
	state(t, "the last one", n, 0, 0, 1, 2, 0, 1, 1)

	var r Net
	r.Send(rich())
	r.Twice(0)
	for i, m := range r.All() {
		if !plain.Msg(m, rich()) {
			t.Errorf("message %d is %v, want %v", i, m, rich())
		}
	}
}

// 2.1: Twice needs room: ErrLimit. Nothing is lost by it, and ErrRange is told ahead of it.
func TestTwiceNeedsRoom(t *testing.T) {
	n := notes(api.MaxFlight - 1)
	is(t, "the last room", n.Twice(3), api.OK)
	count(t, "the last one", n.All()[api.MaxFlight-1].N, 3)
	before := n.All()
	for _, k := range []int{0, 3, api.MaxFlight - 1} {
		is(t, "no room", n.Twice(k), api.ErrLimit)
	}
	for _, k := range []int{-1, api.MaxFlight, api.MaxFlight + 1} {
		is(t, "out of range, and no room", n.Twice(k), api.ErrRange)
	}
	unchanged(t, "Twice", n, before, 0)
	n.Lose(5)
	is(t, "room by Lose", n.Twice(0), api.OK)
}

// unchanged checks what is under way, and how many were lost.
func unchanged(t *testing.T, what string, n *Net, before []api.Msg, lost int) {
	t.Helper()
	all := n.All()
	count(t, what+": Many", n.Many(), len(before))
	count(t, what+": Lost", n.Lost(), lost)
	if len(all) != len(before) {
		t.Errorf("%s: %d are under way, want %d", what, len(all), len(before))
		return
	}
	for i := range all {
		if !plain.Msg(all[i], before[i]) {
			t.Errorf("%s: message %d is %v, want %v", what, i, all[i], before[i])
		}
	}
}

// 2.1: k is from 0 to below Many: else ErrRange, with nothing told and nothing changed (P2).
func TestNumbersOutOfRange(t *testing.T) {
	for _, many := range []int{0, 1, 3, api.MaxFlight} {
		for _, k := range []int{-1, many, many + 1, -many - 1, math.MaxInt, math.MinInt} {
			n := notes(many)
			before := n.All()
			m, err := n.Take(k)
			is(t, "Take", err, api.ErrRange)
			if !plain.Msg(m, api.Msg{}) {
				t.Errorf("Take tells %v with an error", m)
			}
			is(t, "Lose", n.Lose(k), api.ErrRange)
			is(t, "Twice", n.Twice(k), api.ErrRange)
			unchanged(t, "a number out of range", n, before, 0)
		}
	}
}

// 2.1: k at 0 and at Many - 1 is in range.
func TestNumbersAtTheEdge(t *testing.T) {
	for _, many := range []int{1, 2, api.MaxFlight} {
		for _, k := range []int{0, many - 1} {
			m, err := notes(many).Take(k)
			is(t, "Take", err, api.OK)
			count(t, "Take", m.N, k)
			is(t, "Lose", notes(many).Lose(k), api.OK)
		}
	}
}
