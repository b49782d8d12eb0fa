package desk

import (
	"fmt"
	"math/big"
	"regexp"
	"strings"
	"testing"

	"chainmail/api"
	"chainmail/house"
)

// die: numbers that look drawn, the same each time.
type die uint64

func (d *die) below(most int) int {
	*d = *d*6364136223846793005 + 1442695040888963407
	return int(uint64(*d>>33) % uint64(most))
}

// one of some words.
func (d *die) one(words ...string) string { return words[d.below(len(words))] }

// line is one that may be told, mostly a right one.
func (d *die) line() string {
	tx := d.one("1", "1", "2", "2", "3", "4", "5", "0", "-1")
	key := d.one("a", "b", "c", "ab")
	k := d.one("0", "0", "0", "1", "2", "5", "12", "-1", "300")
	switch d.below(16) {
	case 0:
		return "begin"
	case 1, 2:
		return "get " + tx + " " + key
	case 3, 4:
		return "put " + tx + " " + key + " " + d.one("x", "y", "z", "\xff")
	case 5:
		return "del " + tx + " " + key
	case 6:
		return "end " + tx
	case 7:
		return d.one("drop ", "state ", "state ") + tx
	case 8, 9, 10:
		return d.one("deliver ", "deliver ", "lose ", "twice ") + k
	case 11:
		return d.one("tick", "calm", "calm", "fix", "alive", "help")
	case 12:
		return "fail " + d.one("0", "1", "2", "10", "11", "12", "20", "21", "22", "99", "-3")
	case 13:
		return d.one("new 1 2", "new 2 2", "new 5 1", "shard "+key, "state "+tx)
	case 14:
		return d.one("", " ", "x", "begin 1", "get 1", "put 1 a", "end", "end x", "state 01", "get -0 a", "new 1 x", "fail 9223372036854775808")
	}
	return d.one("  state ", "state   ") + tx + d.one("", " ", "  ")
}

// text is a session of so many lines, of which the first ones begin transactions.
func (d *die) text(many int) string {
	text := strings.Repeat("begin\n", d.below(4))
	for range many {
		text += d.line() + "\n"
	}
	return text
}

// slow answers lines by the document's table, gone through from its beginning on for each of them.
type slow struct{ house *house.House }

// form is a line of the table: # is a number, $ is any word.
type form struct {
	form string
	do   func(h *slow, n []int, w []string) (string, error)
}

func forms() []form {
	names := []string{"none", "open", "ending", "committed", "aborted"}
	return []form{
		{"new # #", func(s *slow, n []int, w []string) (string, error) {
			h, err := house.New(n[0], n[1])
			if err == nil {
				s.house = h
			}
			return "new", err
		}},
		{"begin", func(s *slow, n []int, w []string) (string, error) {
			id, err := s.house.Begin()
			return fmt.Sprint(id), err
		}},
		{"get # $", func(s *slow, n []int, w []string) (string, error) {
			value, ok, err := s.house.Get(n[0], w[0])
			if !ok {
				return "none", err
			}
			return "is " + value, err
		}},
		{"put # $ $", func(s *slow, n []int, w []string) (string, error) {
			return "put", s.house.Put(n[0], api.Pair{Key: w[0], Value: w[1]})
		}},
		{"del # $", func(s *slow, n []int, w []string) (string, error) {
			return "del", s.house.Put(n[0], api.Pair{Key: w[0], Gone: true})
		}},
		{"end #", func(s *slow, n []int, w []string) (string, error) { return "end", s.house.End(n[0]) }},
		{"drop #", func(s *slow, n []int, w []string) (string, error) { return "drop", s.house.Drop(n[0]) }},
		{"state #", func(s *slow, n []int, w []string) (string, error) { return names[s.house.State(n[0])], nil }},
		{"deliver #", func(s *slow, n []int, w []string) (string, error) { return "deliver", s.house.Deliver(n[0]) }},
		{"lose #", func(s *slow, n []int, w []string) (string, error) { return "lose", s.house.Lose(n[0]) }},
		{"twice #", func(s *slow, n []int, w []string) (string, error) { return "twice", s.house.Twice(n[0]) }},
		{"tick", func(s *slow, n []int, w []string) (string, error) { s.house.Tick(); return "tick", nil }},
		{"calm", func(s *slow, n []int, w []string) (string, error) { s.house.Calm(); return "calm", nil }},
		{"fail #", func(s *slow, n []int, w []string) (string, error) { return "fail", s.house.Fail(n[0]) }},
		{"fix", func(s *slow, n []int, w []string) (string, error) { s.house.Fix(); return "fix", nil }},
		{"shard $", func(s *slow, n []int, w []string) (string, error) { return fmt.Sprint(s.house.Shard(w[0])), nil }},
		{"alive", func(s *slow, n []int, w []string) (string, error) { return fmt.Sprint(s.house.Alive()), nil }},
		{"help", func(s *slow, n []int, w []string) (string, error) {
			return "alive begin calm del deliver drop end fail fix get help lose new put shard state tick twice", nil
		}},
	}
}

var digits = regexp.MustCompile(`^(0|-?[1-9][0-9]*)$`)

// fits reads a line by a form: its numbers, and its other words.
func fits(form string, words []string) (n []int, w []string, ok bool) {
	parts := strings.Split(form, " ")
	if len(parts) != len(words) || parts[0] != words[0] {
		return nil, nil, false
	}
	for i, p := range parts[1:] {
		word := words[i+1]
		if p == "$" {
			w = append(w, word)
			continue
		}
		var b big.Int
		if !digits.MatchString(word) {
			return nil, nil, false
		}
		if b.SetString(word, 10); !b.IsInt64() {
			return nil, nil, false
		}
		n = append(n, int(b.Int64()))
	}
	return n, w, true
}

func (s *slow) answer(line string) string {
	var words []string
	for _, w := range strings.Split(line, " ") {
		if w != "" {
			words = append(words, w)
		}
	}
	if len(words) == 0 {
		return "ok"
	}
	for _, f := range forms() {
		if n, w, ok := fits(f.form, words); ok {
			told, err := f.do(s, n, w)
			if err != nil {
				return fmt.Sprint("error ", int(api.Tell(err)))
			}
			return told
		}
	}
	return "error 3"
}

// session is Session's answer.
func (s *slow) session(t *testing.T, text string) string {
	h, err := house.New(2, 3)
	if err != nil {
		t.Fatal(err)
	}
	s.house = h
	var told string
	for _, line := range strings.Split(strings.TrimSuffix(text, "\n"), "\n") {
		told += s.answer(line) + "\n"
	}
	return told
}

// 8.1: drawn sessions are answered as the table says; all that may be answered comes up.
func TestDrawnSessions(t *testing.T) {
	d := die(8)
	seen := map[string]int{}
	for range 400 {
		text := d.text(60)
		got := Session(text)
		if want := new(slow).session(t, text); got != want {
			t.Fatalf("%q: %q, want %q", text, got, want)
		}
		for _, answer := range strings.Split(got, "\n") {
			seen[answer]++
		}
	}
	for _, answer := range []string{
		"ok", "new", "1", "5", "is x", "is \xff", "none", "put", "del", "end", "drop", "open", "ending", "committed", "aborted",
		"deliver", "lose", "twice", "tick", "calm", "fail", "fix", "0", "true", "false",
		"error 2", "error 3", "error 6", "error 7", "error 11", "error 12",
	} {
		if seen[answer] == 0 {
			t.Errorf("no line was answered %q", answer)
		}
	}
}

// 8.1: the answers to the first lines of a session are the beginning of the answers to all.
func TestFirstLines(t *testing.T) {
	d := die(81)
	for range 100 {
		text := d.text(40)
		all := Session(text)
		at := 0
		for k := range len(text) {
			if text[k] != '\n' {
				continue
			}
			at += strings.IndexByte(all[at:], '\n') + 1
			if got := Session(text[:k+1]); got != all[:at] {
				t.Fatalf("%q: %q, but as the beginning of %q: %q", text[:k+1], got, text, all[:at])
			}
			if got := Session(text[:k]); !strings.HasSuffix(text[:k], "\n") && got != all[:at] {
				t.Fatalf("%q: %q, but with a line feed at its end %q", text[:k], got, all[:at])
			}
		}
		if at != len(all) {
			t.Fatalf("%q has other lines than %q", text, all)
		}
	}
}

// P4, 8.1: nothing is kept between sessions.
func TestNothingIsKept(t *testing.T) {
	d := die(4)
	var texts, first []string
	for range 30 {
		texts = append(texts, d.text(30))
		first = append(first, Session(texts[len(texts)-1]))
	}
	for k := range texts {
		k = len(texts) - 1 - k
		if got := Session(texts[k]); got != first[k] {
			t.Errorf("%q: %q, at first %q", texts[k], got, first[k])
		}
	}
}

// P1: whatever bytes there are, each line has an answer of the forms that are told.
func TestAnyBytes(t *testing.T) {
	d := die(1)
	form := regexp.MustCompile(`^(ok|error [0-9]+|[0-9]+|(?s:is .+)|none|open|ending|committed|aborted|true|false|alive begin .*|[a-z]+)$`)
	for range 300 {
		b := []byte(d.text(20))
		for range d.below(30) {
			b[d.below(len(b))] = byte(d.below(256))
		}
		got := Session(string(b))
		lines := strings.Count(strings.TrimSuffix(string(b), "\n"), "\n") + 1
		answers := strings.Split(strings.TrimSuffix(got, "\n"), "\n")
		if len(answers) != lines || !strings.HasSuffix(got, "\n") {
			t.Fatalf("%q: %d answers to %d lines", b, len(answers), lines)
		}
		if want := new(slow).session(t, string(b)); got != want {
			t.Fatalf("%q: %q, want %q", b, got, want)
		}
		for _, a := range answers {
			if !form.MatchString(a) {
				t.Fatalf("%q: an answer %q", b, a)
			}
		}
	}
}
