package wire

import "chainmail/api"

// reader has the bytes that are not read yet. Once spoilt it tells zeros, so that whoever reads asks but once, at the end.
type reader struct {
	rest   []byte
	spoilt bool
}

func (r *reader) spoil() {
	r.rest, r.spoilt = nil, true
}

// whole says whether all was read, and all of it was of the form.
func (r *reader) whole() bool {
	return !r.spoilt && len(r.rest) == 0
}

// number reads one from least to most. A last byte of 0 behind others is another way to write the same: it spoils.
func (r *reader) number(least, most int) int {
	n := 0
	for i := range min(len(r.rest), mostBytes) {
		c := r.rest[i]
		n |= int(c&lowBits) << (bitsOfByte * i)
		if c >= more {
			continue
		}
		if c == 0 && i > 0 || n < least || n > most {
			break
		}
		r.rest = r.rest[i+1:]
		return n
	}
	r.spoil()
	return 0
}

func (r *reader) truth() bool {
	return r.number(0, 1) == 1
}

func (r *reader) text(most int) string {
	n := r.number(0, most)
	if n > len(r.rest) {
		r.spoil()
		return ""
	}
	s := string(r.rest[:n])
	r.rest = r.rest[n:]
	return s
}

func (r *reader) command() api.Cmd {
	c := api.Cmd{
		Kind: r.number(api.Write, api.Abort),
		Tx:   r.number(0, api.MaxNumber),
		Time: r.number(0, api.MaxNumber),
	}
	for range r.number(0, maxWrites) {
		c.Writes = append(c.Writes, r.pair())
	}
	return c
}

func (r *reader) pair() api.Pair {
	p := api.Pair{Key: r.text(api.MaxKey), Gone: r.truth()}
	if !p.Gone {
		p.Value = r.text(api.MaxValue)
	}
	return p
}
