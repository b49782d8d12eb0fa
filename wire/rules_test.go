package wire

import (
	"bytes"
	"slices"
	"testing"

	"chainmail/api"
	"chainmail/plain"
)

// copyLog is a log that shares nothing with l.
func copyLog(l []api.Cmd) []api.Cmd {
	l = slices.Clone(l)
	for i := range l {
		l[i].Writes = slices.Clone(l[i].Writes)
	}
	return l
}

// P4: no list that is handed in is written into, nor what stands behind its length.
func TestNothingHandedInIsChanged(t *testing.T) {
	l := goodLog()
	bad := append(goodLog(), api.Cmd{Kind: -1, Tx: -1, Writes: []api.Pair{{Key: long(30), Value: "v", Gone: true}}})
	for _, given := range [][]api.Cmd{l, bad} {
		before := copyLog(given)
		Log(given[:2])
		Log(given)
		for _, c := range given {
			Msg(api.Msg{Kind: api.Forward, Cmd: c})
		}
		if !plain.Log(given, before) {
			t.Error("a log that was handed in is another one")
		}
	}
	b, _ := Log(l)
	before := bytes.Clone(b)
	ReadLog(b)
	ReadMsg(b)
	ReadLog(b[:len(b)/2])
	if !bytes.Equal(b, before) {
		t.Error("bytes that were handed in are others")
	}
}

// P4: nothing handed in is kept: what was told stays, whatever becomes of the bytes.
func TestNothingHandedInIsKept(t *testing.T) {
	l := goodLog()
	b, _ := Log(l)
	got, _ := ReadLog(b)
	m := goodMsgs()[3]
	c, _ := Msg(m)
	gotMsg, _ := ReadMsg(c)
	clear(b)
	clear(c)
	if !plain.Log(got, l) || !plain.Msg(gotMsg, m) {
		t.Error("what was told hangs on the bytes it was read from")
	}
}

// P4: what comes out is the caller's; no two lists of it share memory.
func TestAnswersAreFresh(t *testing.T) {
	l := goodLog()
	a, _ := Log(l)
	want := bytes.Clone(a)
	clear(a[:cap(a)])
	if b, _ := Log(l); !bytes.Equal(b, want) {
		t.Error("an answer of Log is kept")
	}
	got, _ := ReadLog(want)
	spare := got[0].Writes[:cap(got[0].Writes)]
	for i := range spare {
		spare[i] = api.Pair{Key: "spoilt"}
	}
	if !plain.Log(got[1:], l[1:]) {
		t.Error("two lists of an answer share memory")
	}
	if again, _ := ReadLog(want); !plain.Log(again, l) {
		t.Error("an answer of ReadLog is kept")
	}
}

// P4: what is told hangs on the arguments alone: not on calls ahead, nor on what went wrong there.
func TestAnswersHangOnArguments(t *testing.T) {
	for _, m := range goodMsgs() {
		first, _ := Msg(m)
		Msg(api.Msg{Kind: 7, N: -1})
		ReadMsg([]byte{3, 0x80})
		if second, err := Msg(m); err != nil || !bytes.Equal(first, second) {
			t.Errorf("%v is written in two ways", m)
		}
	}
}
