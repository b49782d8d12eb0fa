// Package wire: messages and logs as bytes.
package wire

import (
	"chainmail/api"
)

// Put writes a number from 0 on: seven bits a byte, the least ones first.
func Put(b []byte, n int) []byte {
	for n > lowBits {
		b = append(b, byte(n&lowBits|more))
		n >>= bitsOfByte
	}
	return append(b, byte(n))
}

// Msg writes a message: Kind, From, To, Epoch, N; of Forward its command. ErrArg, ErrRange, ErrLimit: what is wrong last.
func Msg(m api.Msg) ([]byte, error) {
	if m.Kind < api.Sync || m.Kind > api.Stable {
		return nil, api.ErrArg
	}
	var w writer
	w.numbers(m.Kind, m.From, m.To, m.Epoch, m.N)
	if m.Kind == api.Forward {
		w.command(m.Cmd)
	}
	return w.result()
}

// ReadMsg reads what Msg writes, all of it. ErrForm: it is none.
func ReadMsg(b []byte) (api.Msg, error) {
	r := reader{rest: b}
	m := api.Msg{
		Kind:  r.number(api.Sync, api.Stable),
		From:  r.number(0, api.MaxNumber),
		To:    r.number(0, api.MaxNumber),
		Epoch: r.number(0, api.MaxNumber),
		N:     r.number(0, api.MaxNumber),
	}
	if m.Kind == api.Forward {
		m.Cmd = r.command()
	}
	if !r.whole() {
		return api.Msg{}, api.ErrForm
	}
	return m, nil
}

// Log writes commands: how many, and these. ErrLimit: more than MaxLog.
func Log(l []api.Cmd) ([]byte, error) {
	// Too many commands are what is wrong last, whatever else is: they need no look.
	if len(l) > api.MaxLog {
		return nil, api.ErrLimit
	}
	var w writer
	w.numbers(len(l))
	for _, c := range l {
		w.command(c)
	}
	return w.result()
}

// ReadLog reads what Log writes, all of it. ErrForm: it is none.
func ReadLog(b []byte) ([]api.Cmd, error) {
	r := reader{rest: b}
	var l []api.Cmd
	for range r.number(0, api.MaxLog) {
		l = append(l, r.command())
	}
	if !r.whole() {
		return nil, api.ErrForm
	}
	return l, nil
}
