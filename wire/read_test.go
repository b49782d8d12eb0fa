package wire

import (
	"bytes"
	"slices"
	"testing"

	"chainmail/api"
	"chainmail/plain"
)

// noMsg fails unless b is no message, with nothing told beside that (P2).
func noMsg(t *testing.T, b []byte) {
	t.Helper()
	m, err := ReadMsg(b)
	is(t, "ReadMsg", err, api.ErrForm)
	if !plain.Msg(m, api.Msg{}) {
		t.Errorf("% x: %v beside an error", b, m)
	}
}

// noLog fails unless b is no log, with nothing told beside that (P2).
func noLog(t *testing.T, b []byte) {
	t.Helper()
	l, err := ReadLog(b)
	is(t, "ReadLog", err, api.ErrForm)
	if len(l) > 0 {
		t.Errorf("% x: %v beside an error", b, l)
	}
}

// goodLog has all kinds of commands, and all bounds.
func goodLog() []api.Cmd {
	full := api.Cmd{Kind: api.Prepare, Tx: api.MaxNumber, Time: api.MaxNumber}
	for range 20 {
		full.Writes = append(full.Writes, api.Pair{Key: long(api.MaxKey), Value: long(api.MaxValue)})
	}
	return []api.Cmd{
		{Kind: api.Write, Tx: 0, Time: 128, Writes: []api.Pair{{Key: "a", Value: "x"}, {Key: "a", Gone: true}, {}}},
		full,
		{Kind: api.Commit, Tx: 127, Time: 1},
		{Kind: api.Abort, Tx: 300, Writes: []api.Pair{{Key: "\x80\xff", Value: "\x00\n"}}},
	}
}

// goodMsgs has a message of each kind, and of Forward one for each command.
func goodMsgs() []api.Msg {
	l := []api.Msg{
		{Kind: api.Sync},
		{Kind: api.Have, From: 1, To: 128, Epoch: 300, N: 1 << 20},
		{Kind: api.Stable, From: api.MaxNumber, To: api.MaxNumber, Epoch: api.MaxNumber, N: api.MaxNumber},
	}
	for i, c := range goodLog() {
		l = append(l, api.Msg{Kind: api.Forward, From: i, To: i + 1, Epoch: 200, N: i, Cmd: c})
	}
	return l
}

// 1.2: what was written is told; neither beginnings nor longer ones are.
func TestReadMsg(t *testing.T) {
	for _, m := range goodMsgs() {
		b, err := Msg(m)
		is(t, "Msg", err, api.OK)
		got, err := ReadMsg(b)
		is(t, "ReadMsg", err, api.OK)
		if !plain.Msg(got, m) {
			t.Errorf("%v is read as %v", m, got)
		}
		for i := range b {
			noMsg(t, b[:i])
		}
		noMsg(t, join(b, []byte{0}))
		noMsg(t, join(b, b))
	}
}

// 1.2: likewise of logs, of up to MaxLog.
func TestReadLog(t *testing.T) {
	l := goodLog()
	logs := [][]api.Cmd{nil, l, l[:1], l[1:3], slices.Repeat([]api.Cmd{{Kind: api.Abort, Tx: 200}}, api.MaxLog)}
	for _, l := range logs {
		b, err := Log(l)
		is(t, "Log", err, api.OK)
		got, err := ReadLog(b)
		is(t, "ReadLog", err, api.OK)
		if !plain.Log(got, l) {
			t.Errorf("%v is read as %v", l, got)
		}
		for i := range b {
			noLog(t, b[:i])
		}
		noLog(t, join(b, []byte{0}))
		noLog(t, join(b, b))
	}
}

// 1.2: what Msg does not write; of others than Forward no command is told.
func TestReadMsgElse(t *testing.T) {
	for _, b := range [][]byte{
		nil,
		{},
		{0, 0, 0, 0, 0},
		{5, 0, 0, 0, 0},
		{0x81, 0, 0, 0, 0, 0},
		{1, 0x80, 0, 0, 0, 0},
		{1, 0x81, 0x80, 0, 0, 0, 0},
		{1, 0, 0, 0, 0, 4, 0, 0, 0},
		{3, 0, 0, 0, 0},
		{1, 0x81, 0x80, 0x80, 0x80, 0x80, 0x20, 0, 0, 0},
		{1, 0, 0, 0, 0x80, 0x80, 0x80, 0x80, 0x80, 0x21},
		{1, 0, 0, 0, 0x80, 0x80, 0x80, 0x80, 0x80, 0x80, 1},
		{1, 0, 0, 0, 0x80, 0x80, 0x80, 0x80, 0x80, 0x80, 0x80, 0x80, 0x80, 0x80, 1},
		{1, 0, 0, 0, 0xff, 0xff, 0xff, 0xff, 0xff, 0xff, 0xff, 0xff, 0xff, 1},
		bytes.Repeat([]byte{0x80}, 1000),
		bytes.Repeat([]byte{0xff}, 1000),
	} {
		noMsg(t, b)
	}
}

// 1.2: what Log does not write: of each part what is beyond its bound, or written in another way.
func TestReadLogElse(t *testing.T) {
	one := func(tail ...byte) []byte { return join([]byte{1}, tail) }
	for _, b := range [][]byte{
		nil,
		{},
		{0x80, 0},
		one(0, 0, 0, 0),
		one(5, 0, 0, 0),
		one(9, 0, 0, 0),
		one(0x81, 0, 0, 0, 0),
		one(4, 0x80, 0, 0, 0),
		one(4, 0, 0x80, 0, 0),
		one(4, 0, 0, 0x80, 0),
		one(4, 0x81, 0x80, 0x80, 0x80, 0x80, 0x20, 0, 0),
		one(4, 0, 0, 1, 0, 2),
		one(4, 0, 0, 1, 0, 2, 0),
		one(4, 0, 0, 1, 0, 0x81, 0),
		one(4, 0, 0, 1, 0, 1, 0),
		one(4, 0, 0, 1, 0x80, 0, 0, 0),
		one(4, 0, 0, 1, 0, 0, 0x80, 0),
		join(one(4, 0, 0, 21), make([]byte, 3*21)),
		join(one(4, 0, 0, 1, 21), []byte(long(21)), []byte{0, 0}),
		join(one(4, 0, 0, 1, 0, 0, 41), []byte(long(41))),
		join([]byte{245, 3}, bytes.Repeat([]byte{4, 0, 0, 0}, api.MaxLog+1)),
		join([]byte{128, 128, 128, 128, 128, 32}, bytes.Repeat([]byte{4, 0, 0, 0}, 3)),
		bytes.Repeat([]byte{0xff}, 1000),
	} {
		noLog(t, b)
	}
}

// onlyWhatIsWritten fails unless b is refused, or just what is written of what it tells (1.2).
func onlyWhatIsWritten(t *testing.T, b []byte) {
	t.Helper()
	if m, err := ReadMsg(b); err != nil {
		noMsg(t, b)
	} else if again, err := Msg(m); err != nil || !bytes.Equal(again, b) {
		t.Errorf("% x is read as %v, of which % x is written", b, m, again)
	}
	if l, err := ReadLog(b); err != nil {
		noLog(t, b)
	} else if again, err := Log(l); err != nil || !bytes.Equal(again, b) {
		t.Errorf("% x is read as %v, of which % x is written", b, l, again)
	}
}

// 1.2, P1: each bit of what is written turned; each byte left out, or told twice.
func TestReadChanged(t *testing.T) {
	var all [][]byte
	for _, m := range goodMsgs() {
		b, _ := Msg(m)
		all = append(all, b)
	}
	l := goodLog()
	b, _ := Log([]api.Cmd{l[0], l[2], l[3]})
	for _, b := range append(all, b) {
		for i := range b {
			for bit := range 8 {
				changed := bytes.Clone(b)
				changed[i] ^= 1 << bit
				onlyWhatIsWritten(t, changed)
			}
			onlyWhatIsWritten(t, join(b[:i], b[i+1:]))
			onlyWhatIsWritten(t, join(b[:i+1], b[i:]))
		}
	}
}

// 1.2, P1: all short rows of some bytes that mean something.
func TestReadShort(t *testing.T) {
	signs := []byte{0, 1, 3, 4, 0x80, 0x81}
	rows := [][]byte{{}}
	for range 6 {
		var next [][]byte
		for _, r := range rows {
			onlyWhatIsWritten(t, r)
			for _, s := range signs {
				next = append(next, join(r, []byte{s}))
			}
		}
		rows = next
	}
}
