package many

import (
	"fmt"
	"math"
	"slices"
	"strings"
	"sync"
	"testing"

	"chainmail/api"
	"chainmail/desk"
	"chainmail/plain"
)

// die: numbers that look drawn, the same each time.
type die uint64

func (d *die) below(most int) int {
	*d = *d*6364136223846793005 + 1442695040888963407
	return int(uint64(*d>>33) % uint64(most))
}

// text is a session that has answers of its own, short or long.
func (d *die) text() string {
	text := fmt.Sprintf("begin\nput 1 a v%d\nget 1 a\nend 1\n", d.below(1000))
	lines := []string{
		"calm", "tick", "begin", "state 1", "state 2", "get 2 a", "put 2 a x", "del 2 a", "end 2", "drop 2", "deliver 0", "lose 0",
		"twice 0", "fail 0", "fail 20", "fix", "alive", "new 1 2", "new 0 0", "help", "", "x", "shard a",
	}
	for range d.below(60) {
		text += lines[d.below(len(lines))] + "\n"
	}
	return text
}

// texts are so many, all of them others.
func texts(many int) []string {
	d := die(9)
	var l []string
	for range many {
		l = append(l, d.text())
	}
	return l
}

// sessions are the answers of texts, one behind the other.
func sessions(texts []string) []string {
	var l []string
	for _, text := range texts {
		l = append(l, desk.Session(text))
	}
	return l
}

// answers checks what All tells of texts.
func answers(t *testing.T, texts []string, workers int) {
	t.Helper()
	got, err := All(texts, workers)
	if err != nil || !slices.Equal(got, sessions(texts)) {
		t.Errorf("%d texts, %d workers: %.300q %v", len(texts), workers, got, err)
	}
}

// refuses checks that All tells ErrLimit, and nothing else.
func refuses(t *testing.T, texts []string, workers int) {
	t.Helper()
	got, err := All(texts, workers)
	if e, bare := plain.Bare(err); e != api.ErrLimit || !bare || len(got) > 0 {
		t.Errorf("%d texts, %d workers: %.300q %v, want ErrLimit", len(texts), workers, got, err)
	}
}

// 9.1: each text's answers, in order, with one worker, with as many as texts, and with more.
func TestAll(t *testing.T) {
	for _, n := range []int{0, 1, 2, 3, 15, 16, 17, 49, 50} {
		l := texts(n)
		for _, workers := range []int{1, 2, max(1, min(n, 16)), 15, 16} {
			answers(t, l, workers)
		}
	}
	got, err := All([]string{"begin\nstate 1", "", "state 1\nbegin\nbegin", "x", strings.Repeat("x", api.MaxText+1)}, 3)
	want := []string{"1\nopen\n", "ok\n", "none\n1\n2\n", "error 3\n", "error 4\n"}
	if err != nil || !slices.Equal(got, want) {
		t.Errorf("All: %q %v, want %q", got, err, want)
	}
}

// 9.1: ErrLimit, if there are more than 50 texts, or workers is not from 1 to 16.
func TestLimits(t *testing.T) {
	for _, n := range []int{0, 1, 50} {
		for _, workers := range []int{0, -1, 17, 18, 1 << 32, math.MaxInt, math.MinInt} {
			refuses(t, texts(n), workers)
		}
		answers(t, texts(n), 1)
		answers(t, texts(n), 16)
	}
	refuses(t, nil, 0)
	refuses(t, nil, 17)
	for _, n := range []int{51, 52, 1000} {
		for _, workers := range []int{1, 16, 0, 17} {
			refuses(t, make([]string, n), workers)
		}
	}
}

// 9.1: no texts have no answers.
func TestNoTexts(t *testing.T) {
	for _, l := range [][]string{nil, {}} {
		for _, workers := range []int{1, 16} {
			if got, err := All(l, workers); err != nil || len(got) != 0 {
				t.Errorf("All of no texts: %q %v", got, err)
			}
		}
	}
}

// 9.1, and 6 of the whole: however many workers there are makes no difference.
func TestWorkersMakeNoDifference(t *testing.T) {
	d := die(91)
	for range 10 {
		l := texts(50)[d.below(20) : 30+d.below(20)]
		one, err := All(l, 1)
		if err != nil {
			t.Fatal(err)
		}
		for workers := 2; workers <= 16; workers++ {
			if got, err := All(l, workers); err != nil || !slices.Equal(got, one) {
				t.Errorf("%d workers: %.300q %v, one: %.300q", workers, got, err, one)
			}
		}
	}
}

// 9.1: a text's answers are its own: the same text has the same ones, whatever stands beside it.
func TestAnswersAreTheirOwn(t *testing.T) {
	l := slices.Repeat([]string{"begin\nput 1 a x\nend 1\ncalm\nstate 1\nbegin", "state 1\nbegin\nget 1 a"}, 25)
	got, err := All(l, 16)
	want := slices.Repeat([]string{"1\nput\nend\ncalm\ncommitted\n2\n", "none\n1\nnone\n"}, 25)
	if err != nil || !slices.Equal(got, want) {
		t.Errorf("All: %q %v", got, err)
	}
}

// P4: texts are not written into, nor what stands behind them; answers are fresh.
func TestListsAreNotShared(t *testing.T) {
	room := texts(6)
	kept := slices.Clone(room)
	first, _ := All(room[:3], 2)
	second, _ := All(room[:3], 2)
	if !slices.Equal(room, kept) {
		t.Errorf("texts are written into")
	}
	for k := range first {
		first[k] = "written"
	}
	if !slices.Equal(second, sessions(kept[:3])) || !slices.Equal(room, kept) {
		t.Errorf("answers share memory")
	}
}

// Calls at the same time have nothing in common.
func TestCallsAtTheSameTime(t *testing.T) {
	var group sync.WaitGroup
	for n := range 8 {
		group.Go(func() { answers(t, texts(10+n), 1+n) })
	}
	group.Wait()
}
