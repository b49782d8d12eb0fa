package house

import (
	"slices"
	"testing"

	"chainmail/api"
)

// 7.2, 7.3: a head that fails behind a read: ErrFull, and it is Open still; behind Fix it is Aborted.
func TestHeadFailsBehindRead(t *testing.T) {
	h := calmHouse(t, 2, 3)
	id, other := begin(t, h), begin(t, h)
	a, b := keyAt(t, h, 0, 0), keyAt(t, h, 1, 0)
	lacks(t, h, id, a)
	lacks(t, h, other, b)
	fails(t, h, 0)
	refuses(t, h, id, a, api.ErrFull)
	refuses(t, h, other, a, api.ErrFull)
	state(t, h, id, Open)
	lacks(t, h, id, b)
	h.Calm()
	refuses(t, h, id, a, api.ErrFull)
	h.Fix()
	state(t, h, id, Aborted)
	refuses(t, h, id, a, api.ErrState)
	refuses(t, h, id, b, api.ErrState)
	state(t, h, other, Open)
	lacks(t, h, other, a)
	puts(t, h, other, a, "its lock was let go")
	commits(t, h, other)
}

// 7.3: Fix: Open transactions that came to a chain with dead nodes are Aborted, whichever of them died; those that came elsewhere, or later, are not.
func TestFixAborts(t *testing.T) {
	for _, dead := range [][]int{{10}, {11}, {12}, {10, 12}, {11, 12}, {10, 11}} {
		h := calmHouse(t, 3, 3)
		read, wrote, elsewhere, nowhere := begin(t, h), begin(t, h), begin(t, h), begin(t, h)
		lacks(t, h, read, keyAt(t, h, 1, 0))
		puts(t, h, wrote, keyAt(t, h, 1, 1), "x")
		puts(t, h, wrote, keyAt(t, h, 2, 1), "x")
		puts(t, h, elsewhere, keyAt(t, h, 0, 0), "x")
		waits := begin(t, h)
		refusesGet(t, h, waits, keyAt(t, h, 1, 1), api.ErrCycle)
		fails(t, h, dead...)
		for id := read; id <= waits; id++ {
			state(t, h, id, Open)
		}
		h.Fix()
		state(t, h, read, Aborted)
		state(t, h, wrote, Aborted)
		state(t, h, waits, Aborted)
		state(t, h, elsewhere, Open)
		state(t, h, nowhere, Open)
		lacks(t, h, nowhere, keyAt(t, h, 1, 1))
		lacks(t, h, nowhere, keyAt(t, h, 2, 1))
		h.Fix()
		state(t, h, nowhere, Open)
		commits(t, h, nowhere)
		commits(t, h, elsewhere)
	}
}

// 7.3: Fix changes nothing where nobody is dead, and where all are.
func TestFixWithoutNeed(t *testing.T) {
	h := calmHouse(t, 2, 2)
	id := begin(t, h)
	lacks(t, h, id, keyAt(t, h, 0, 0))
	lacks(t, h, id, keyAt(t, h, 1, 0))
	h.Fix()
	state(t, h, id, Open)
	count(t, "Many", h.Many(), 0)
	fails(t, h, 0, 1)
	h.Fix()
	state(t, h, id, Open)
	refuses(t, h, id, keyAt(t, h, 0, 0), api.ErrFull)
	lacks(t, h, id, keyAt(t, h, 1, 0))
	count(t, "Many", h.Many(), 0)
	fails(t, h, 20)
	h.Fix()
	state(t, h, id, Open)
}

// 7.3: with a node that is dead, and without Fix, nothing is stable that was not: it stays Ending; behind Fix it goes on.
func TestFailsAheadOfPrepare(t *testing.T) {
	for dead := range 3 {
		h := calmHouse(t, 2, 3)
		id, a, b := wroteBoth(t, h)
		ends(t, h, id)
		fails(t, h, dead) // with the head its Forward is lost
		h.Calm()
		state(t, h, id, Ending)
		h.Fix()
		h.Calm()
		reader := begin(t, h)
		if dead > 0 {
			state(t, h, id, Committed)
			gets(t, h, reader, a, "x")
			gets(t, h, reader, b, "y")
			continue
		}
		state(t, h, id, Aborted)
		lacks(t, h, reader, a)
		lacks(t, h, reader, b)
		logged(t, h, 0, 2, dropped(id))
		logged(t, h, 1, 3, prepared(id, pair(b, "y")), dropped(id))
		logged(t, h, 2, 3)
	}
}

// 7.3: End of one whose shard has no head that lives: its writes are not there; behind Fix it is Aborted.
func TestEndWithoutHead(t *testing.T) {
	h := calmHouse(t, 2, 2)
	id, a, b := wroteBoth(t, h)
	fails(t, h, 0)
	ends(t, h, id)
	h.Calm()
	state(t, h, id, Ending)
	other := begin(t, h)
	refuses(t, h, other, b, api.ErrCycle)
	h.Fix()
	state(t, h, id, Aborted)
	lacks(t, h, other, a)
	lacks(t, h, other, b)
	h.Calm()
	logged(t, h, 0, 1, dropped(id))
	logged(t, h, 1, 2, prepared(id, pair(b, "y")), dropped(id))
	commits(t, h, other)
}

// 7.3: its writes are at the new head, though not stable: it is not Aborted.
func TestWritesAreThere(t *testing.T) {
	h := calmHouse(t, 1, 3)
	id := begin(t, h)
	puts(t, h, id, "a", "x")
	ends(t, h, id)
	is(t, "Deliver", h.Deliver(0), api.OK) // node 1 has it
	loseAll(t, h)
	fails(t, h, 0)
	h.Fix()
	state(t, h, id, Ending)
	refusesGet(t, h, begin(t, h), "a", api.ErrCycle)
	h.Calm()
	state(t, h, id, Committed)
	time := logs(t, h, 1)[0][0].Time
	logged(t, h, 0, 2, prepared(id, pair("a", "x")), decided(id, time))

	// And now the one that has it fails, too.
	h = calmHouse(t, 1, 3)
	id = begin(t, h)
	puts(t, h, id, "a", "x")
	ends(t, h, id)
	is(t, "Deliver", h.Deliver(0), api.OK)
	loseAll(t, h)
	fails(t, h, 0)
	h.Fix()
	loseAll(t, h)
	fails(t, h, 1)
	state(t, h, id, Ending)
	h.Tick()
	state(t, h, id, Ending)
	h.Fix()
	state(t, h, id, Aborted)
}

// prepare has a transaction end, and all of its shards have its writes stably, all messages of decisions being lost.
func prepare(t *testing.T, h *House, id int) {
	t.Helper()
	ends(t, h, id)
	decisions := 10 * h.decisions()
	for k := 0; k < h.Many(); {
		if m := h.way.All()[k]; m.From >= decisions {
			is(t, "Lose", h.Lose(k), api.OK)
			continue
		}
		is(t, "Deliver", h.Deliver(k), api.OK)
	}
	state(t, h, id, Ending)
	count(t, "decisions of the head", len(logs(t, h, h.decisions())[0]), 1)
	count(t, "decisions of the next one", len(logs(t, h, h.decisions())[1]), 0)
}

// 7.3: decisions one of whose nodes fails: behind Fix and Calm it is Committed, also if what was decided died with the head.
func TestDecisionsFail(t *testing.T) {
	for _, dead := range [][]int{{20}, {21}, {22}, {20, 21}, {21, 22}, {20, 22}} {
		h := calmHouse(t, 2, 3)
		id, a, b := wroteBoth(t, h)
		prepare(t, h, id)
		fails(t, h, dead...)
		h.Calm()
		state(t, h, id, Ending)
		refusesGet(t, h, begin(t, h), a, api.ErrCycle)
		h.Fix()
		h.Calm()
		state(t, h, id, Committed)
		time := logs(t, h, 2)[0][0].Time
		logged(t, h, 2, 3-len(dead), decided(id, time))
		logged(t, h, 0, 3, prepared(id, pair(a, "x")), decided(id, time))
		logged(t, h, 1, 3, prepared(id, pair(b, "y")), decided(id, time))
	}
}

// 7.3: decisions that have no head when all is prepared are told behind Fix.
func TestDecisionsWithoutHead(t *testing.T) {
	h := calmHouse(t, 2, 2)
	id, a, _ := wroteBoth(t, h)
	nowhere := begin(t, h)
	fails(t, h, 20)
	ends(t, h, id)
	ends(t, h, nowhere)
	h.Calm()
	state(t, h, id, Ending)
	state(t, h, nowhere, Ending)
	h.Fix() // one node is left: no message is to come
	state(t, h, id, Committed)
	state(t, h, nowhere, Committed)
	gets(t, h, begin(t, h), a, "x")
}

// 7.3: when the writes are stable a shard may have another configuration: it is not Aborted.
func TestShardFailsBehindPrepare(t *testing.T) {
	for dead := range 3 {
		h := calmHouse(t, 2, 3)
		id, a, b := wroteBoth(t, h)
		prepare(t, h, id)
		fails(t, h, dead)
		h.Fix()
		state(t, h, id, Ending)
		h.Calm()
		state(t, h, id, Committed)
		reader := begin(t, h)
		gets(t, h, reader, a, "x")
		gets(t, h, reader, b, "y")
	}
}

// 7.3: a shard whose head is dead when it is decided is told behind Fix; what is Committed is not lost.
func TestShardIsToldLater(t *testing.T) {
	h := calmHouse(t, 2, 3)
	id, a, b := wroteBoth(t, h)
	prepare(t, h, id)
	fails(t, h, 0)
	h.Calm()
	state(t, h, id, Committed) // all nodes of shard 0 have its writes
	reader := begin(t, h)
	gets(t, h, reader, b, "y")
	refuses(t, h, reader, a, api.ErrFull)
	h.Fix()
	gets(t, h, reader, a, "x")
	h.Calm()
	time := logs(t, h, 2)[0][0].Time
	logged(t, h, 0, 2, prepared(id, pair(a, "x")), decided(id, time))
}

// 7.3: what a head was told of one that is Committed, or Aborted, may die with it: its shard is told again.
func TestShardIsToldAgain(t *testing.T) {
	h := calmHouse(t, 2, 3)
	id, a, b := wroteBoth(t, h)
	prepare(t, h, id)
	h.Tick()
	for h.State(id) == Ending {
		is(t, "Deliver", h.Deliver(0), api.OK)
	}
	loseAll(t, h)
	if !has(logs(t, h, 0)[0], api.Commit, id) || has(logs(t, h, 0)[1], api.Commit, id) {
		t.Fatal("the head alone is told")
	}
	fails(t, h, 0)
	h.Fix()
	state(t, h, id, Committed)
	reader := begin(t, h)
	gets(t, h, reader, a, "x")
	gets(t, h, reader, b, "y")
	commits(t, h, reader)
	time := logs(t, h, 2)[0][0].Time
	logged(t, h, 0, 2, prepared(id, pair(a, "x")), decided(id, time), prepared(reader), decided(reader, time+1))

	h = calmHouse(t, 2, 3)
	id, _, b = wroteBoth(t, h)
	ends(t, h, id)
	for k := 0; k < h.Many(); { // shard 1 has its writes, shard 0 has not
		if m := h.way.All()[k]; m.From < 10 {
			is(t, "Lose", h.Lose(k), api.OK)
			continue
		}
		is(t, "Deliver", h.Deliver(k), api.OK)
	}
	fails(t, h, 0)
	h.Fix()
	state(t, h, id, Aborted)
	loseAll(t, h)
	for k := range 2 {
		if l := logs(t, h, k); !has(l[0], api.Abort, id) || has(l[1], api.Abort, id) {
			t.Fatal("the heads alone are told")
		}
	}
	fails(t, h, 1, 10)
	h.Fix()
	h.Calm()
	logged(t, h, 0, 1, dropped(id))
	logged(t, h, 1, 2, prepared(id, pair(b, "y")), dropped(id))
	state(t, h, id, Aborted)
}

// 7.3: Fix tells nodes of their configuration, and they tell each other what is missing, without Tick.
func TestFixTells(t *testing.T) {
	for nodes := 3; nodes <= 4; nodes++ {
		h := calmHouse(t, 1, nodes)
		id := begin(t, h)
		puts(t, h, id, "a", "x")
		ends(t, h, id)
		is(t, "Deliver", h.Deliver(0), api.OK)
		loseAll(t, h)
		fails(t, h, 0)
		h.Fix()
		count(t, "Many", h.Many(), nodes-1)
		quiet(t, h)
		state(t, h, id, Committed)
	}
}

// 7.3: a chain of one node that is dead has nothing stably.
func TestOnlyNodeFails(t *testing.T) {
	h := house(t, 2, 1)
	id, _, b := wroteBoth(t, h)
	fails(t, h, 0)
	ends(t, h, id)
	h.Fix()
	h.Calm()
	state(t, h, id, Ending)
	logged(t, h, 1, 1, prepared(id, pair(b, "y")))
	logged(t, h, 2, 1)

	h = house(t, 2, 1)
	id, _, _ = wroteBoth(t, h)
	nowhere := begin(t, h)
	fails(t, h, 20)
	ends(t, h, id)
	ends(t, h, nowhere)
	h.Fix()
	h.Calm()
	state(t, h, id, Ending)
	state(t, h, nowhere, Ending)
}

// 7.2, 7.3: a whole chain that fails: its keys can't be had, who needs it stays Ending, and all else goes on.
func TestWholeChainFails(t *testing.T) {
	h := calmHouse(t, 2, 2)
	before, a, b := wroteBoth(t, h)
	commits(t, h, before)
	id, other := begin(t, h), begin(t, h)
	puts(t, h, id, a, "lost")
	gets(t, h, other, b, "y")
	fails(t, h, 0, 1)
	for range 2 {
		refuses(t, h, id, a, api.ErrFull)
		refuses(t, h, other, a, api.ErrFull)
		puts(t, h, other, b, "z")
		h.Fix()
		h.Calm()
	}
	state(t, h, id, Open)
	ends(t, h, id)
	h.Fix()
	h.Calm()
	state(t, h, id, Ending)
	commits(t, h, other)
	gets(t, h, begin(t, h), b, "z")
	l := logs(t, h, 0)
	count(t, "how many nodes live", len(l), 0)
}

// 7.3: without decisions nothing is Committed any more, nor Aborted.
func TestAllDecisionsFail(t *testing.T) {
	h := calmHouse(t, 1, 2)
	id, other := begin(t, h), begin(t, h)
	puts(t, h, id, "a", "x")
	fails(t, h, 10, 11)
	ends(t, h, id)
	h.Fix()
	h.Calm()
	state(t, h, id, Ending)
	refuses(t, h, other, "a", api.ErrCycle)
	lacks(t, h, other, "b")
	logged(t, h, 0, 2, prepared(id, pair("a", "x")))
}

// 7.4: what is Committed lasts, while one node of its chain lives, whichever that is.
func TestLasts(t *testing.T) {
	for last := range 4 {
		h := calmHouse(t, 2, 4)
		id, a, b := wroteBoth(t, h)
		commits(t, h, id)
		for i := range 4 {
			for k := range 3 {
				if i != last {
					fails(t, h, 10*k+i)
				}
			}
			if i%2 == 0 {
				h.Fix()
			}
		}
		h.Fix()
		reader := begin(t, h)
		gets(t, h, reader, a, "x")
		gets(t, h, reader, b, "y")
		puts(t, h, reader, a, "z")
		commits(t, h, reader)
		gets(t, h, begin(t, h), a, "z")
	}
}

// 7.3: Fix sets nodes in their order, and what comes of an elder configuration is nothing.
func TestFixKeepsOrder(t *testing.T) {
	h := calmHouse(t, 1, 4)
	h.Tick()
	fails(t, h, 1)
	h.Fix()
	ids := func(k int) (l []int) {
		for _, n := range h.lines[k].nodes {
			l = append(l, n.Id())
		}
		return l
	}
	if !slices.Equal(ids(0), []int{0, 2, 3}) || !slices.Equal(ids(1), []int{10, 11, 12, 13}) {
		t.Errorf("chains are %v and %v", ids(0), ids(1))
	}
	id := begin(t, h)
	puts(t, h, id, "a", "x")
	ends(t, h, id)
	quiet(t, h)
	state(t, h, id, Committed)
	time := logs(t, h, 1)[0][0].Time
	logged(t, h, 0, 3, prepared(id, pair("a", "x")), decided(id, time))
}
