package house

import (
	"testing"

	"chainmail/api"
)

// 7.2: several read a key; who reads is in the way of who writes, and waits for an elder one.
func TestReadersAndWriters(t *testing.T) {
	h := house(t, 1, 2)
	first, second, third := begin(t, h), begin(t, h), begin(t, h)
	lacks(t, h, first, "a")
	lacks(t, h, second, "a")
	lacks(t, h, third, "a")
	is(t, "Put", h.Put(third, api.Pair{Key: "a"}), api.ErrCycle)
	state(t, h, third, Open)
	refuses(t, h, third, "a", api.ErrCycle)
	is(t, "Drop", h.Drop(second), api.OK)
	refuses(t, h, third, "a", api.ErrCycle)
	is(t, "Drop", h.Drop(first), api.OK)
	lacks(t, h, third, "a")
	puts(t, h, third, "a", "x")
	gets(t, h, third, "a", "x")
}

// 7.2: one that waits is to be asked again; it sees what the one that it waited for has committed.
func TestWaitsAndIsAskedAgain(t *testing.T) {
	for nodes := 2; nodes <= 4; nodes++ {
		h := house(t, 2, nodes)
		elder, younger := begin(t, h), begin(t, h)
		puts(t, h, elder, "a", "x")
		refusesGet(t, h, younger, "a", api.ErrCycle)
		lacks(t, h, younger, "b") // it may go elsewhere meanwhile
		puts(t, h, younger, "b", "y")
		ends(t, h, elder)
		refusesGet(t, h, younger, "a", api.ErrCycle)
		h.Calm()
		state(t, h, elder, Committed)
		gets(t, h, younger, "a", "x")
		commits(t, h, younger)
	}
}

// 7.2: who is younger, Open, and in the way is Aborted at once; so it waits no more.
func TestWounds(t *testing.T) {
	h := house(t, 2, 2)
	elder := begin(t, h)
	writer, other := begin(t, h), begin(t, h)
	puts(t, h, writer, "a", "x")
	puts(t, h, writer, "b", "x")
	puts(t, h, other, "c", "x")
	lacks(t, h, elder, "a")
	state(t, h, writer, Aborted)
	state(t, h, other, Open)
	refuses(t, h, writer, "b", api.ErrState)
	puts(t, h, other, "b", "its locks were let go")

	reader, another := begin(t, h), begin(t, h)
	lacks(t, h, reader, "a")
	lacks(t, h, another, "a")
	puts(t, h, elder, "a", "y")
	state(t, h, reader, Aborted)
	state(t, h, another, Aborted)
	commits(t, h, elder)
	commits(t, h, other)
	gets(t, h, begin(t, h), "a", "y")
}

// 7.2: those that read do not wound each other.
func TestReadersDoNotWound(t *testing.T) {
	h := house(t, 1, 1)
	elder, younger := begin(t, h), begin(t, h)
	lacks(t, h, younger, "a")
	lacks(t, h, elder, "a")
	state(t, h, younger, Open)
	commits(t, h, younger)
	commits(t, h, elder)
}

// 7.2: with an elder one in the way, too, it wounds those that are younger, and waits.
func TestWoundsAndWaits(t *testing.T) {
	h := house(t, 1, 2)
	first, second, third := begin(t, h), begin(t, h), begin(t, h)
	lacks(t, h, first, "a")
	lacks(t, h, third, "a")
	is(t, "Put", h.Put(second, api.Pair{Key: "a", Value: "x"}), api.ErrCycle)
	state(t, h, third, Aborted)
	state(t, h, first, Open)
	is(t, "Put", h.Put(second, api.Pair{Key: "a", Value: "x"}), api.ErrCycle)
	commits(t, h, first)
	puts(t, h, second, "a", "x")
	commits(t, h, second)
}

// 7.2: who is Ending is not wounded: the elder one waits, and is asked again.
func TestEndingIsNotWounded(t *testing.T) {
	h := house(t, 1, 2)
	elder, younger := begin(t, h), begin(t, h)
	puts(t, h, younger, "a", "x")
	ends(t, h, younger)
	refusesGet(t, h, elder, "a", api.ErrCycle)
	state(t, h, younger, Ending)
	is(t, "End", h.End(elder), api.ErrCycle)
	h.Calm()
	state(t, h, younger, Committed)
	gets(t, h, elder, "a", "x")
	commits(t, h, elder)
}

// 7.2: one that waits is in the way of younger ones that come later.
func TestElderOneThatWaits(t *testing.T) {
	h := house(t, 1, 2)
	first, second, third := begin(t, h), begin(t, h), begin(t, h)
	lacks(t, h, first, "a")
	is(t, "Put", h.Put(second, api.Pair{Key: "a"}), api.ErrCycle)
	refusesGet(t, h, third, "a", api.ErrCycle)
	is(t, "Drop", h.Drop(second), api.OK)
	lacks(t, h, third, "a")
}

// 7.2: End: ErrCycle, if it waits for a key, wherever; not any more when it has it.
func TestEndOfOneThatWaits(t *testing.T) {
	h := house(t, 2, 2)
	first, second := begin(t, h), begin(t, h)
	puts(t, h, second, "c", "x")
	puts(t, h, first, "a", "x")
	puts(t, h, first, "b", "x")
	refusesGet(t, h, second, "a", api.ErrCycle)
	refusesGet(t, h, second, "b", api.ErrCycle)
	for range 2 {
		is(t, "End", h.End(second), api.ErrCycle)
		state(t, h, second, Open)
	}
	commits(t, h, first)
	commits(t, h, second) // it has both, also if it is not asked again
	gets(t, h, begin(t, h), "c", "x")
}

// 7.2: Drop of one that waits: nobody waits behind it.
func TestDropOfOneThatWaits(t *testing.T) {
	h := house(t, 1, 2)
	first, second, third := begin(t, h), begin(t, h), begin(t, h)
	lacks(t, h, first, "a")
	is(t, "Put", h.Put(second, api.Pair{Key: "a"}), api.ErrCycle)
	is(t, "Drop", h.Drop(second), api.OK)
	state(t, h, second, Aborted)
	lacks(t, h, third, "a")
	commits(t, h, first)
	puts(t, h, third, "a", "x")
}

// crowd has 50 wait for a key, behind a transaction that has it; two are elder than that, and one is younger than all.
func crowd(t *testing.T) (h *House, eldest, elder, holder, last int) {
	t.Helper()
	h = house(t, 1, 2)
	eldest, elder, holder = begin(t, h), begin(t, h), begin(t, h)
	puts(t, h, holder, "a", "x")
	for range 50 {
		is(t, "Put", h.Put(begin(t, h), api.Pair{Key: "a"}), api.ErrCycle)
	}
	return h, eldest, elder, holder, begin(t, h)
}

// 7.2: 50 may wait for a key; one more is what chapter 5 says, ErrLimit, and nothing is changed.
func TestTooManyWait(t *testing.T) {
	h, _, _, holder, last := crowd(t)
	refuses(t, h, last, "a", api.ErrLimit)
	state(t, h, last, Open)
	state(t, h, holder, Open)
	ends(t, h, last) // it waits for nothing
	is(t, "Put", h.Put(holder+1, api.Pair{Key: "a"}), api.ErrCycle)
	is(t, "Drop", h.Drop(holder), api.OK)
	puts(t, h, holder+1, "a", "x")
}

// 7.2, P2: one for which there is no room to wait came to no shard.
func TestTooManyWaitComesNowhere(t *testing.T) {
	h, eldest, _, holder, last := crowd(t)
	refuses(t, h, last, "a", api.ErrLimit)
	fails(t, h, 1)
	h.Fix()
	state(t, h, last, Open)
	state(t, h, eldest, Open)
	state(t, h, holder, Aborted)
	state(t, h, holder+1, Aborted)
}

// 7.4: the eldest one gets any key at once, however many wait for it.
func TestEldestAmongMany(t *testing.T) {
	h, eldest, elder, holder, _ := crowd(t)
	lacks(t, h, elder, "a")
	state(t, h, holder, Aborted)
	puts(t, h, eldest, "a", "y")
	state(t, h, elder, Aborted)
	gets(t, h, eldest, "a", "y")
	commits(t, h, eldest)

	h, eldest, elder, holder, _ = crowd(t)
	puts(t, h, eldest, "a", "y")
	state(t, h, holder, Aborted)
	state(t, h, elder, Open)
	commits(t, h, eldest)
}

// 7.2: an elder one wounds nobody for whom it would have to wait beside others, if there is no room to wait.
func TestTooManyWaitForEnding(t *testing.T) {
	h, eldest, _, holder, _ := crowd(t)
	ends(t, h, holder)
	refuses(t, h, eldest, "a", api.ErrLimit)
	state(t, h, holder, Ending)
	h.Calm()
	state(t, h, holder, Committed)
	gets(t, h, eldest, "a", "x")
}

// 7.2: one that reads a key for which 50 wait may write it, if only younger ones read it, too.
func TestReaderAmongMany(t *testing.T) {
	h := house(t, 1, 1)
	eldest, elder, younger := begin(t, h), begin(t, h), begin(t, h)
	lacks(t, h, elder, "a")
	lacks(t, h, younger, "a")
	for range 50 {
		is(t, "Put", h.Put(begin(t, h), api.Pair{Key: "a"}), api.ErrCycle)
	}
	puts(t, h, elder, "a", "x")
	state(t, h, younger, Aborted)
	state(t, h, younger+1, Open)
	refusesGet(t, h, younger+1, "a", api.ErrCycle)
	lacks(t, h, eldest, "a")
	state(t, h, elder, Aborted)
}
