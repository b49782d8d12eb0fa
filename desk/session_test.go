package desk

import (
	"strconv"
	"strings"
	"testing"

	"chainmail/api"
)

// 8.1: a session that begins transactions, puts, gets, takes away, ends them, and is calm.
func TestTransactions(t *testing.T) {
	talk(t,
		"begin => 1",
		"state 1 => open",
		"get 1 a => none",
		"put 1 a x => put",
		"put 1 b y => put",
		"get 1 a => is x",
		"end 1 => end",
		"state 1 => ending",
		"put 1 a z => error 6",
		"calm => calm",
		"state 1 => committed",
		"begin => 2",
		"get 2 a => is x",
		"del 2 a => del",
		"get 2 a => none",
		"end 2 => end",
		"calm => calm",
		"begin => 3",
		"get 3 a => none",
		"get 3 b => is y",
		"put 3 b w => put",
		"drop 3 => drop",
		"state 3 => aborted",
		"begin => 4",
		"get 4 b => is y",
		"get 3 b => error 6",
		"end 3 => error 6",
		"drop 3 => error 6",
		"drop 1 => error 6",
		"state 0 => none",
		"state 5 => none",
		"state -1 => none",
		"end 5 => error 7",
		"drop 5 => error 7",
	)
}

// 8.1: who waits is told ErrCycle; who is younger and in the way is aborted.
func TestWaiting(t *testing.T) {
	talk(t,
		"begin => 1",
		"begin => 2",
		"put 1 a x => put",
		"get 2 a => error 11",
		"put 2 a y => error 11",
		"del 2 a => error 11",
		"end 2 => error 11",
		"put 2 b y => put",
		"get 1 b => none",
		"state 2 => aborted",
		"end 1 => end",
		"calm => calm",
		"begin => 3",
		"get 3 b => none",
		"get 3 a => is x",
	)
}

// 8.1: a word is a value or a key, whatever it looks like, and is told to the byte.
func TestAnyWord(t *testing.T) {
	for _, word := range []string{"-", "0", "-0", "01", "none", "is", "error", "begin", "\x00", "\xff\xfe", "\u00e4", "\r", "\t", "a\tb", "\"x", "#"} {
		talk(t,
			"begin => 1",
			"put 1 "+word+" "+word+" => put",
			"get 1 "+word+" => is "+word,
			"del 1 "+word+" => del",
			"get 1 "+word+" => none",
		)
	}
}

// 8.1: messages are delivered, lost and told twice one by one.
func TestMessages(t *testing.T) {
	talk(t,
		"new 1 2 => new",
		"calm => calm",
		"deliver 0 => error 2",
		"lose 0 => error 2",
		"twice 0 => error 2",
		"begin => 1",
		"put 1 a x => put",
		"end 1 => end",
		"lose 1 => error 2",
		"lose -1 => error 2",
		"lose 0 => lose",
		"deliver 0 => error 2",
		"state 1 => ending",
		"tick => tick",
		"twice 0 => twice",
		"deliver 99 => error 2",
		"calm => calm",
		"state 1 => committed",
		"deliver 0 => error 2",
		"begin => 2",
		"put 2 a y => put",
		"end 2 => end",
		"twice 0 => twice",
		"deliver 1 => deliver",
		"deliver 0 => deliver",
		"state 2 => ending",
		"calm => calm",
		"state 2 => committed",
		"begin => 3",
		"get 3 a => is y",
	)
}

// 8.1: message by message, as by calm, a transaction is committed.
func TestOneByOne(t *testing.T) {
	text := "begin\nput 1 a x\nput 1 b y\nend 1\n" + strings.Repeat("deliver 0\n", 200) + "state 1\nbegin\nget 2 a\nget 2 b"
	got := Session(text)
	for _, part := range []string{"1\nput\nput\nend\ndeliver\n", "deliver\nerror 2\n", "error 2\ncommitted\n2\nis x\nis y\n"} {
		if !strings.Contains(got, part) {
			t.Errorf("one by one: %q lacks %q", got, part)
		}
	}
}

// 8.1: twice is told ErrLimit, when MaxFlight messages are under way.
func TestNoRoom(t *testing.T) {
	text := "new 1 2\ncalm\nbegin\nput 1 a x\nend 1\n" + strings.Repeat("twice 0\n", api.MaxFlight) + "lose 199\ntwice 0\ntwice 0\ndeliver 200"
	want := append([]string{"new", "calm", "1", "put", "end"}, times("twice", api.MaxFlight-1)...)
	says(t, text, append(want, "error 4", "lose", "twice", "error 4", "error 2")...)
}

// 8.1: nodes fail and are fixed.
func TestNodesThatFail(t *testing.T) {
	talk(t,
		"alive => true",
		"begin => 1",
		"put 1 b x => put",
		"end 1 => end",
		"calm => calm",
		"begin => 2",
		"get 2 b => is x",
		"fail 0 => fail",
		"fail 0 => error 7",
		"fail 3 => error 7",
		"get 2 b => error 12",
		"put 2 b y => error 12",
		"del 2 b => error 12",
		"get 2 a => none",
		"alive => true",
		"fix => fix",
		"state 2 => aborted",
		"get 2 b => error 6",
		"begin => 3",
		"get 3 b => is x",
		"fail 2 => fail",
		"alive => true",
		"fail 1 => fail",
		"alive => false",
		"fix => fix",
		"alive => false",
		"get 3 b => error 12",
		"get 3 a => none",
		"new 1 1 => new",
		"alive => true",
		"fail 0 => fail",
		"alive => false",
		"fail 10 => fail",
		"fail 11 => error 7",
	)
}

// 8.1: a node of the decisions that fails lets transactions wait until it is fixed.
func TestDecisionsThatFail(t *testing.T) {
	talk(t,
		"begin => 1",
		"put 1 a x => put",
		"fail 20 => fail",
		"end 1 => end",
		"calm => calm",
		"state 1 => ending",
		"alive => true",
		"fix => fix",
		"calm => calm",
		"state 1 => committed",
		"fail 21 => fail",
		"fail 22 => fail",
		"alive => false",
	)
}

// 8.1: with an error the old house stays; a new house has nothing of the old one.
func TestNew(t *testing.T) {
	talk(t,
		"begin => 1",
		"put 1 a x => put",
		"end 1 => end",
		"calm => calm",
		"begin => 2",
		"new 0 1 => error 2",
		"new 1 0 => error 2",
		"new 5 1 => error 2",
		"new 1 5 => error 2",
		"new -1 -1 => error 2",
		"new 1 => error 3",
		"new 1 x => error 3",
		"new => error 3",
		"state 1 => committed",
		"get 2 a => is x",
		"fail 12 => fail",
		"new 2 2 => new",
		"state 1 => none",
		"get 2 a => error 7",
		"fail 12 => error 7",
		"begin => 1",
		"get 1 a => none",
		"fail 11 => fail",
	)
	for s := range 6 {
		for n := range 6 {
			want := "new"
			if s < 1 || s > 4 || n < 1 || n > 4 {
				want = "error 2"
			}
			talk(t, "new "+strconv.Itoa(s)+" "+strconv.Itoa(n)+" => "+want)
		}
	}
}

// 8.1: the house that is there at first has 2 shards of 3 nodes each, and their decisions.
func TestFirstHouse(t *testing.T) {
	for _, head := range []int{0, 10, 20} {
		for k := range 10 {
			want := "fail"
			if k > 2 {
				want = "error 7"
			}
			says(t, "fail "+strconv.Itoa(head+k), want)
		}
	}
	says(t, "fail 30", "error 7")
	says(t, "shard a\nshard b\nshard c", "1", "0", "1")
	if got, want := strings.Count(Session(strings.Repeat("lose 0\n", 100)), "lose"), strings.Count(Session("new 2 3\n"+strings.Repeat("lose 0\n", 100)), "lose"); got != want || got == 0 {
		t.Errorf("at first %d messages are under way, behind new 2 3 %d", got, want)
	}
}

// A fault that is not thrown as an error is no answer: it is thrown on.
func TestOtherPanics(t *testing.T) {
	s := newSession()
	s.orders["tick"] = order{do: func([]string) string { panic("a fault") }}
	defer func() {
		if r := recover(); r != "a fault" {
			t.Errorf("thrown on: %v", r)
		}
	}()
	t.Errorf("answered: %q", s.answer("tick"))
}

// Whoever goes through lines may stop.
func TestSomeLines(t *testing.T) {
	n := 0
	for line := range lines("a\nb\nc") {
		n++
		if line == "b" {
			break
		}
	}
	if n != 2 {
		t.Errorf("%d lines, want 2", n)
	}
}
