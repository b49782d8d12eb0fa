package house

import (
	"fmt"
	"strings"
	"testing"

	"chainmail/api"
)

// picture is all that a house is: what its face tells, what is under way, and who has which key.
func picture(h *House) string {
	var b strings.Builder
	fmt.Fprintln(&b, h.Many(), h.Alive(), h.way.All())
	for id := range len(h.txs) + 2 {
		fmt.Fprintln(&b, id, h.State(id))
	}
	for _, t := range h.txs {
		fmt.Fprintln(&b, *t)
	}
	for k, l := range h.lines {
		logs, _ := h.Logs(k)
		fmt.Fprintln(&b, k, l.heard, logs)
		for _, n := range l.nodes {
			fmt.Fprintln(&b, n.Id(), n.Epoch(), n.Len(), n.Stable())
		}
	}
	for _, key := range h.keys.Keys() {
		fmt.Fprintln(&b, key, h.keys.Waits(key))
		for id := range h.txs {
			fmt.Fprintln(&b, id, h.keys.Holds(id+1, key))
		}
	}
	return b.String()
}

// P1: no call panics, whatever it is given, and whoever is dead.
func TestAnyNumbers(t *testing.T) {
	for _, dead := range [][]int{{}, {0}, {1}, {10, 20}, {0, 1, 10, 11, 20, 21}} {
		h := house(t, 2, 2)
		id, _, _ := wroteBoth(t, h)
		ends(t, h, id)
		begin(t, h)
		fails(t, h, dead...)
		for _, n := range append(numbers(), 0, 1, 2, 3, 20) {
			for _, key := range []string{"", "a", "\xff\xfe", strings.Repeat("k", 1000)} {
				h.Shard(key)
				h.Get(n, key)
				h.Put(n, api.Pair{Key: key, Value: key})
				h.Put(n, api.Pair{Key: key, Gone: true})
			}
			h.State(n)
			h.Deliver(n)
			h.Lose(n)
			h.Twice(n)
			h.Logs(n)
			h.Tick()
			h.End(n)
			h.Fix()
			h.Drop(n)
			h.Calm()
			h.Alive()
			h.Fail(n)
		}
	}
}

// P2: with an error nothing is changed, but where one that waits is told so.
func TestErrorsChangeNothing(t *testing.T) {
	refused := 0
	for seed := range 80 {
		w := create(t, seed, map[string]int{})
		for range 150 {
			w.step(seed%2 == 0)
			w.look()
			before := picture(w.h)
			if err := w.wrong(); api.Tell(err) == api.OK || api.Tell(err) == api.ErrCycle {
				w.look()
				continue
			}
			refused++
			if after := picture(w.h); after != before {
				t.Fatalf("an error changed %s to %s", before, after)
			}
		}
	}
	if refused < 5000 {
		t.Errorf("just %d were refused", refused)
	}
}

// wrong does something that is often refused.
func (w *world) wrong() error {
	id, key := w.pick(), w.key()
	switch w.d.below(9) {
	case 0:
		_, _, err := w.h.Get(id, key)
		return err
	case 1:
		_, _, err := w.h.Get(id, key+strings.Repeat("k", api.MaxKey))
		return err
	case 2:
		return w.h.Put(id, api.Pair{Key: key, Value: strings.Repeat("v", api.MaxValue+1)})
	case 3:
		return w.h.Put(id, api.Pair{Key: key + strings.Repeat("k", api.MaxKey)})
	case 4:
		return w.h.Deliver(w.h.Many())
	case 5:
		return w.h.Lose(-1)
	case 6:
		return w.h.Twice(w.h.Many() + w.d.below(3))
	case 7:
		return w.h.Fail(10*w.d.below(6) + w.d.below(10) + 4)
	}
	return w.h.End(id + 60)
}

// P4: what a house answers hangs on the calls on it before alone.
func TestSameCallsSameAnswers(t *testing.T) {
	for seed := range 60 {
		one, two := create(t, seed, map[string]int{}), create(t, seed, map[string]int{})
		for range 150 {
			one.step(true)
			one.look()
			two.step(true)
			two.look()
		}
		if a, b := picture(one.h), picture(two.h); a != b || fmt.Sprint(one.txs) != fmt.Sprint(two.txs) {
			t.Fatalf("the same calls tell %s and %s", a, b)
		}
	}
}

// P4: what Logs tell is the caller's, no two lists of it share memory, and it stays.
func TestLogsAreFresh(t *testing.T) {
	h := calmHouse(t, 1, 2)
	for range 2 {
		id := begin(t, h)
		puts(t, h, id, "a", "x")
		puts(t, h, id, "b", "y")
		commits(t, h, id)
	}
	before := picture(h)
	kept := logs(t, h, 0)
	text := fmt.Sprint(kept)
	l := logs(t, h, 0)
	spoil(l[0][0].Writes)
	if fmt.Sprint(l[0][2]) != fmt.Sprint(kept[0][2]) || fmt.Sprint(l[1]) != fmt.Sprint(kept[1]) {
		t.Error("two lists of logs share memory")
	}
	for _, log := range l {
		for _, c := range log {
			spoil(c.Writes)
		}
		clear(log[:cap(log)])
	}
	clear(l[:cap(l)])
	if picture(h) != before {
		t.Error("what Logs told is the house's")
	}
	id := begin(t, h)
	gets(t, h, id, "a", "x")
	takes(t, h, id, "a")
	commits(t, h, id)
	if fmt.Sprint(kept) != text {
		t.Error("what Logs told did not stay")
	}
}

// spoil writes into all of a list, also behind its length.
func spoil(l []api.Pair) {
	for i := range l[:cap(l)] {
		l[:cap(l)][i] = api.Pair{Key: "spoilt"}
	}
}

// P4: two houses have nothing of each other.
func TestHousesAreApart(t *testing.T) {
	one, two := calmHouse(t, 2, 2), calmHouse(t, 2, 2)
	before := picture(two)
	id, a, _ := wroteBoth(t, one)
	commits(t, one, id)
	fails(t, one, 0)
	one.Tick()
	if picture(two) != before {
		t.Error("a house changed another one")
	}
	lacks(t, two, begin(t, two), a)
}
