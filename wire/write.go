package wire

import "chainmail/api"

// writer has the bytes so far, and the last thing that was wrong.
type writer struct {
	bytes []byte
	wrong error
}

// need notes what is wrong, unless ok. What was wrong ahead of it is forgotten: the last thing tells.
func (w *writer) need(ok bool, e api.Errno) {
	if !ok {
		w.wrong = e
	}
}

// numbers writes any number of numbers.
func (w *writer) numbers(list ...int) {
	for _, n := range list {
		w.need(n >= 0 && n <= api.MaxNumber, api.ErrRange)
		w.bytes = Put(w.bytes, n)
	}
}

func (w *writer) truth(t bool) {
	if t {
		w.numbers(1)
	} else {
		w.numbers(0)
	}
}

func (w *writer) text(s string, most int) {
	if len(s) > most {
		w.wrong = api.ErrLimit
		return // nothing is told of what is wrong: its bytes need no room
	}
	w.numbers(len(s))
	w.bytes = append(w.bytes, s...)
}

func (w *writer) command(c api.Cmd) {
	w.need(c.Kind >= api.Write && c.Kind <= api.Abort, api.ErrArg)
	w.need(len(c.Writes) <= maxWrites, api.ErrLimit)
	w.numbers(c.Kind&kindBits, c.Tx, c.Time, len(c.Writes))
	for _, p := range c.Writes {
		w.pair(p)
	}
}

func (w *writer) pair(p api.Pair) {
	w.text(p.Key, api.MaxKey)
	w.truth(p.Gone)
	if !p.Gone {
		w.text(p.Value, api.MaxValue)
	}
}

func (w *writer) result() ([]byte, error) {
	if w.wrong != nil {
		return nil, w.wrong
	}
	return w.bytes, nil
}
