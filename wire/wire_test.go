package wire

import (
	"bytes"
	"math"
	"slices"
	"strconv"
	"strings"
	"testing"

	"chainmail/api"
	"chainmail/plain"
)

// is fails unless err is just e, without a place (P3).
func is(t *testing.T, what string, err error, e api.Errno) {
	t.Helper()
	if got, bare := plain.Bare(err); got != e || !bare {
		t.Errorf("%s: error %d (bare: %v), want %d", what, got, bare, e)
	}
}

// same fails unless b is want, without an error.
func same(t *testing.T, what string, b []byte, err error, want ...byte) {
	t.Helper()
	is(t, what, err, api.OK)
	if !bytes.Equal(b, want) {
		t.Errorf("%s: % x, want % x", what, b, want)
	}
}

// join puts bytes behind each other.
func join(l ...[]byte) []byte { return bytes.Join(l, nil) }

// long is a text of n bytes.
func long(n int) string { return strings.Repeat("k", n) }

// pairs is n writes.
func pairs(n int) []api.Pair { return make([]api.Pair, n) }

// numbers that are written, and their bytes.
func numbers() map[int][]byte {
	return map[int][]byte{
		0:                 {0},
		1:                 {1},
		127:               {127},
		128:               {128, 1},
		129:               {129, 1},
		300:               {172, 2},
		1<<14 - 1:         {255, 127},
		1 << 14:           {128, 128, 1},
		1<<35 - 1:         {255, 255, 255, 255, 127},
		1 << 35:           {128, 128, 128, 128, 128, 1},
		api.MaxNumber - 1: {255, 255, 255, 255, 255, 31},
		api.MaxNumber:     {128, 128, 128, 128, 128, 32},
	}
}

// 1.1: the bytes of numbers, behind what is there.
func TestPut(t *testing.T) {
	for n, want := range numbers() {
		same(t, "Put", Put(nil, n), nil, want...)
		same(t, "Put behind", Put([]byte{9, 8}, n), nil, join([]byte{9, 8}, want)...)
	}
}

// P1, P4: no number makes Put panic or go on for ever; what is there ahead stays.
func TestPutOfOthers(t *testing.T) {
	for _, n := range []int{-1, -128, math.MinInt, math.MaxInt, api.MaxNumber + 1} {
		b := []byte{7, 7}
		if got := Put(b, n); !bytes.Equal(b, []byte{7, 7}) || !bytes.HasPrefix(got, b) {
			t.Errorf("Put of %d: % x", n, got)
		}
	}
}

// 1.1: all numbers of a message and of a command are written by Put.
func TestNumbersInside(t *testing.T) {
	for n, w := range numbers() {
		b, err := Msg(api.Msg{Kind: api.Have, From: n, To: n, Epoch: n, N: n})
		same(t, "Msg", b, err, join([]byte{2}, w, w, w, w)...)
		b, err = Log([]api.Cmd{{Kind: api.Commit, Tx: n, Time: n}})
		same(t, "Log", b, err, join([]byte{1, 3}, w, w, []byte{0})...)
	}
}

// 1.1: truths, texts and commands: a Value that is Gone is not written.
func TestCommand(t *testing.T) {
	l := []api.Cmd{
		{Kind: api.Write, Tx: 1, Time: 200, Writes: []api.Pair{{Key: "ab", Value: "xyz"}, {Key: "", Value: ""}}},
		{Kind: api.Prepare, Tx: 2, Writes: []api.Pair{{Key: "c", Value: "left out", Gone: true}, {Key: "\xff\x00", Value: "é"}}},
		{Kind: api.Commit, Time: 3},
		{Kind: api.Abort},
	}
	b, err := Log(l)
	same(t, "Log", b, err,
		4,
		1, 1, 200, 1, 2, 2, 'a', 'b', 0, 3, 'x', 'y', 'z', 0, 0, 0,
		2, 2, 0, 2, 1, 'c', 1, 2, 0xff, 0, 0, 2, 0xc3, 0xa9,
		3, 0, 3, 0,
		4, 0, 0, 0)
}

// 1.2: Msg writes the command of Forward alone; of others it is not looked at.
func TestMsg(t *testing.T) {
	wrong := api.Cmd{Kind: 9, Tx: -1, Writes: pairs(21)}
	for _, k := range []int{api.Sync, api.Have, api.Stable} {
		b, err := Msg(api.Msg{Kind: k, From: 1, To: 2, Epoch: 3, N: 4, Cmd: wrong})
		same(t, "Msg", b, err, byte(k), 1, 2, 3, 4)
	}
	b, err := Msg(api.Msg{Kind: api.Forward, From: 1, To: 2, Epoch: 3, N: 4, Cmd: api.Cmd{Kind: api.Commit, Tx: 5, Time: 6}})
	same(t, "Forward", b, err, 3, 1, 2, 3, 4, 3, 5, 6, 0)
}

// 1.2: a log without commands, and one of MaxLog.
func TestLogBounds(t *testing.T) {
	b, err := Log(nil)
	same(t, "nil", b, err, 0)
	b, err = Log([]api.Cmd{})
	same(t, "empty", b, err, 0)
	b, err = Log(slices.Repeat([]api.Cmd{{Kind: api.Abort}}, api.MaxLog))
	same(t, "MaxLog", b, err, join([]byte{244, 3}, bytes.Repeat([]byte{4, 0, 0, 0}, api.MaxLog))...)
}

// 1.2: just as much as is allowed.
func TestBoundsAreAllowed(t *testing.T) {
	c := api.Cmd{Kind: api.Prepare, Writes: pairs(20)}
	c.Writes[19] = api.Pair{Key: strings.Repeat("é", 10), Value: long(40)}
	b, err := Log([]api.Cmd{c})
	want := join([]byte{1, 2, 0, 0, 20}, make([]byte, 3*19), []byte{20}, []byte(c.Writes[19].Key), []byte{0, 40}, []byte(long(40)))
	same(t, "bounds", b, err, want...)
}

// 1.2: a Value that is Gone is not written, and so not wrong, however long it is.
func TestGoneValueIsNotWrong(t *testing.T) {
	c := api.Cmd{Kind: api.Write, Writes: []api.Pair{{Key: "a", Value: long(41), Gone: true}}}
	b, err := Log([]api.Cmd{c})
	same(t, "Gone", b, err, 1, 1, 0, 0, 1, 1, 'a', 1)
}

// wrongs: commands, and what they tell: by the last thing that is wrong, in the order in which it is written.
func wrongs() []struct {
	what string
	cmd  api.Cmd
	err  api.Errno
} {
	const k, above = api.Write, api.MaxNumber + 1
	key, value := api.Pair{Key: long(21)}, api.Pair{Value: long(41)}
	return []struct {
		what string
		cmd  api.Cmd
		err  api.Errno
	}{
		{"Kind 0", api.Cmd{}, api.ErrArg},
		{"Kind 5", api.Cmd{Kind: 5}, api.ErrArg},
		{"Kind of a good one and 8", api.Cmd{Kind: 9}, api.ErrArg},
		{"Kind above MaxNumber", api.Cmd{Kind: above}, api.ErrArg},
		{"greatest Kind", api.Cmd{Kind: math.MaxInt}, api.ErrArg},
		{"Kind -1: 7 is left", api.Cmd{Kind: -1}, api.ErrArg},
		{"Kind -2: 6 is left", api.Cmd{Kind: -2}, api.ErrArg},
		{"Kind -7: 1 is left, as of Write", api.Cmd{Kind: -7}, api.ErrArg},
		{"Kind -8: 0 is left", api.Cmd{Kind: -8}, api.ErrArg},
		{"Kind -9: 7 is left", api.Cmd{Kind: -9}, api.ErrArg},
		{"least Kind: 0 is left", api.Cmd{Kind: math.MinInt}, api.ErrArg},
		{"Tx below", api.Cmd{Kind: k, Tx: -1}, api.ErrRange},
		{"Tx above", api.Cmd{Kind: k, Tx: above}, api.ErrRange},
		{"Time below", api.Cmd{Kind: k, Time: math.MinInt}, api.ErrRange},
		{"Time above", api.Cmd{Kind: k, Time: math.MaxInt}, api.ErrRange},
		{"21 Writes", api.Cmd{Kind: k, Writes: pairs(21)}, api.ErrLimit},
		{"Key", api.Cmd{Kind: k, Writes: []api.Pair{key}}, api.ErrLimit},
		{"Key of 11 signs", api.Cmd{Kind: k, Writes: []api.Pair{{Key: strings.Repeat("é", 11)}}}, api.ErrLimit},
		{"Key that is Gone", api.Cmd{Kind: k, Writes: []api.Pair{{Key: long(21), Gone: true}}}, api.ErrLimit},
		{"Value", api.Cmd{Kind: k, Writes: []api.Pair{{}, value}}, api.ErrLimit},
		{"Kind, Tx", api.Cmd{Kind: 7, Tx: -1}, api.ErrRange},
		{"Kind, Time", api.Cmd{Time: above}, api.ErrRange},
		{"Kind, 21 Writes", api.Cmd{Kind: 9, Writes: pairs(21)}, api.ErrLimit},
		{"Kind below, 20 Writes", api.Cmd{Kind: -1, Writes: pairs(20)}, api.ErrArg},
		{"Kind below, 21 Writes", api.Cmd{Kind: -1, Writes: pairs(21)}, api.ErrLimit},
		{"Kind below, Tx", api.Cmd{Kind: -9, Tx: -1}, api.ErrRange},
		{"Kind below, Time", api.Cmd{Kind: -1, Time: above}, api.ErrRange},
		{"Kind, Key", api.Cmd{Writes: []api.Pair{key, {}}}, api.ErrLimit},
		{"21 Writes, Tx", api.Cmd{Kind: k, Tx: -1, Writes: pairs(21)}, api.ErrRange},
		{"21 Writes, Time", api.Cmd{Kind: k, Time: -1, Writes: pairs(21)}, api.ErrRange},
		{"Tx, Key", api.Cmd{Kind: k, Tx: -1, Writes: []api.Pair{key}}, api.ErrLimit},
		{"Time, Value", api.Cmd{Kind: k, Time: -1, Writes: []api.Pair{value, {}}}, api.ErrLimit},
		{"21 Writes, Tx, last Key", api.Cmd{Kind: k, Tx: -1, Writes: append(pairs(20), key)}, api.ErrLimit},
		{"all", api.Cmd{Kind: -1, Tx: -1, Time: -1, Writes: slices.Repeat([]api.Pair{value}, 30)}, api.ErrLimit},
	}
}

// 1.2, P2: what is wrong in a command, in a log and in Forward; no bytes beside it.
func TestWrongCommands(t *testing.T) {
	good := api.Cmd{Kind: api.Abort}
	for _, w := range wrongs() {
		b, err := Log([]api.Cmd{good, w.cmd, good})
		is(t, "Log: "+w.what, err, w.err)
		m, err := Msg(api.Msg{Kind: api.Forward, Cmd: w.cmd})
		is(t, "Msg: "+w.what, err, w.err)
		if len(b)+len(m) > 0 {
			t.Errorf("%s: bytes beside an error", w.what)
		}
	}
}

// 1.2: what is left of a Kind modulo 8 is from 0 to 7: behind a number out of range a wrong Kind tells ErrArg, whatever it is.
func TestNoKindIsOutOfRange(t *testing.T) {
	for _, from := range []int{0, math.MinInt / 2, math.MaxInt / 2, api.MaxNumber} {
		for k := from - 40; k <= from+40; k++ {
			want := api.ErrArg
			if k >= api.Write && k <= api.Abort {
				want = api.ErrRange
			}
			_, err := Log([]api.Cmd{{Kind: api.Commit, Tx: -1}, {Kind: k}})
			is(t, "Log: Kind "+strconv.Itoa(k), err, want)
			_, err = Msg(api.Msg{Kind: api.Forward, From: -1, Cmd: api.Cmd{Kind: k}})
			is(t, "Msg: Kind "+strconv.Itoa(k), err, want)
		}
	}
}

// 1.2: of two wrong commands the last one tells; more than MaxLog tells last of all.
func TestLastWrongCommand(t *testing.T) {
	for _, a := range wrongs() {
		for _, b := range wrongs() {
			_, err := Log([]api.Cmd{a.cmd, {Kind: api.Write}, b.cmd})
			is(t, a.what+"; "+b.what, err, b.err)
		}
		l := slices.Repeat([]api.Cmd{{Kind: api.Abort}}, api.MaxLog)
		_, err := Log(append(l, a.cmd))
		is(t, "501, "+a.what, err, api.ErrLimit)
	}
	_, err := Log(slices.Repeat([]api.Cmd{{Kind: api.Abort}}, api.MaxLog+1))
	is(t, "501 good ones", err, api.ErrLimit)
}

// 1.2: a message's Kind is told ahead of all else.
func TestWrongKindOfMsg(t *testing.T) {
	for _, k := range []int{0, 5, 9, 11, -1, -5, math.MinInt, math.MaxInt, api.MaxNumber + 1} {
		for _, n := range []int{0, -1} {
			b, err := Msg(api.Msg{Kind: k, From: n, To: n, Epoch: n, N: n, Cmd: api.Cmd{Writes: pairs(21)}})
			is(t, "Kind", err, api.ErrArg)
			if len(b) > 0 {
				t.Error("bytes beside an error")
			}
		}
	}
}

// 1.2: a message's numbers out of range, and then its command.
func TestWrongNumbersOfMsg(t *testing.T) {
	for _, n := range []int{-1, math.MinInt, api.MaxNumber + 1, math.MaxInt} {
		for i := range 4 {
			var at [4]int
			at[i] = n
			for _, k := range []int{api.Sync, api.Have, api.Forward, api.Stable} {
				m := api.Msg{Kind: k, From: at[0], To: at[1], Epoch: at[2], N: at[3], Cmd: api.Cmd{Kind: api.Write}}
				_, err := Msg(m)
				is(t, "number", err, api.ErrRange)
			}
			for _, w := range wrongs() {
				m := api.Msg{Kind: api.Forward, From: at[0], To: at[1], Epoch: at[2], N: at[3], Cmd: w.cmd}
				_, err := Msg(m)
				is(t, "number, then "+w.what, err, w.err)
			}
		}
	}
}
