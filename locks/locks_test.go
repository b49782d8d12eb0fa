package locks

import (
	"math"
	"slices"
	"strconv"
	"strings"
	"testing"

	"chainmail/api"
	"chainmail/plain"
)

// is checks that an error is that one, without a place.
func is(t *testing.T, what string, err error, want api.Errno) {
	t.Helper()
	if e, bare := plain.Bare(err); e != want || !bare {
		t.Errorf("%s: error %v, want %v", what, err, want)
	}
}

// ask is what Lock is asked, as a text.
func ask(tx int, name string, mode int) string {
	return "Lock " + strconv.Itoa(tx) + " " + strconv.Quote(name) + " " + strconv.Itoa(mode)
}

// has locks a key that must be had at once: by Writes, if it was so ahead.
func has(t *testing.T, b *Table, tx int, name string, mode int) {
	t.Helper()
	want := max(mode, b.Holds(tx, name))
	ok, wounded, err := b.Lock(tx, name, mode)
	is(t, ask(tx, name, mode), err, api.OK)
	if !ok || len(wounded) > 0 {
		t.Errorf("%s: %v %v, want true and none", ask(tx, name, mode), ok, wounded)
	}
	holds(t, b, tx, name, want)
	if slices.Contains(b.Waits(name), tx) {
		t.Errorf("%s: it waits", ask(tx, name, mode))
	}
}

// waits locks a key for which one must wait, wounding those; how it holds it stays.
func waits(t *testing.T, b *Table, tx int, name string, mode int, want ...int) {
	t.Helper()
	ahead := b.Holds(tx, name)
	ok, wounded, err := b.Lock(tx, name, mode)
	is(t, ask(tx, name, mode), err, api.OK)
	if ok || !slices.Equal(wounded, want) {
		t.Errorf("%s: %v %v, want false and %v", ask(tx, name, mode), ok, wounded, want)
	}
	holds(t, b, tx, name, ahead)
	if !slices.Contains(b.Waits(name), tx) {
		t.Errorf("%s: it does not wait", ask(tx, name, mode))
	}
	for _, younger := range wounded {
		if b.Holds(younger, name) == None {
			t.Errorf("%s: wounds %d, which does not hold it any more", ask(tx, name, mode), younger)
		}
	}
}

// refused locks a key with that error: nothing else is told, and nothing changes.
func refused(t *testing.T, b *Table, tx int, name string, mode int, want api.Errno) {
	t.Helper()
	before := view(b)
	ok, wounded, err := b.Lock(tx, name, mode)
	is(t, ask(tx, name, mode), err, want)
	if ok || len(wounded) > 0 {
		t.Errorf("%s: %v %v beside an error", ask(tx, name, mode), ok, wounded)
	}
	if got := view(b); got != before {
		t.Errorf("%s: an error changed\n%s to\n%s", ask(tx, name, mode), before, got)
	}
}

// holds checks how a transaction holds a key.
func holds(t *testing.T, b *Table, tx int, name string, want int) {
	t.Helper()
	if got := b.Holds(tx, name); got != want {
		t.Errorf("Holds %d %q: %d, want %d", tx, name, got, want)
	}
}

// queue checks who waits for a key.
func queue(t *testing.T, b *Table, name string, want ...int) {
	t.Helper()
	if got := b.Waits(name); !slices.Equal(got, want) {
		t.Errorf("Waits %q: %v, want %v", name, got, want)
	}
}

// keys checks which keys somebody holds, or waits for.
func keys(t *testing.T, b *Table, want ...string) {
	t.Helper()
	if got := b.Keys(); !slices.Equal(got, want) {
		t.Errorf("Keys: %q, want %q", got, want)
	}
}

// view is all that a Table tells, of transactions from -2 to 300, as a text.
func view(b *Table) string {
	var s strings.Builder
	for _, name := range b.Keys() {
		s.WriteString(strconv.Quote(name) + ":")
		for tx := -2; tx <= 300; tx++ {
			if mode := b.Holds(tx, name); mode != None {
				s.WriteString(" " + strconv.Itoa(tx) + "/" + strconv.Itoa(mode))
			}
		}
		for _, tx := range b.Waits(name) {
			s.WriteString(" waits " + strconv.Itoa(tx))
		}
		s.WriteString("\n")
	}
	return s.String()
}

// 5.1: the modes are None, Reads, Writes, from 0 on.
func TestModes(t *testing.T) {
	if None != 0 || Reads != 1 || Writes != 2 {
		t.Errorf("modes %d %d %d", None, Reads, Writes)
	}
}

// P1: the zero value is a Table with no keys.
func TestEmpty(t *testing.T) {
	var b Table
	keys(t, &b)
	queue(t, &b, "a")
	holds(t, &b, 1, "a", None)
	released(t, &b, 1)
	has(t, &b, 1, "a", Writes)
	keys(t, &b, "a")
}

// 5.1: two are in each other's way, if one has, or wants, Writes; the elder one wounds, the younger one does not.
func TestTwoAtAKey(t *testing.T) {
	for _, x := range []struct{ first, second int }{{Reads, Writes}, {Writes, Reads}, {Writes, Writes}} {
		var b Table
		has(t, &b, 5, "a", x.first)
		waits(t, &b, 3, "a", x.second, 5)
		waits(t, &b, 7, "a", x.second)
		queue(t, &b, "a", 3, 7)
		holds(t, &b, 5, "a", x.first)
	}
	for _, second := range []int{3, 7} {
		var b Table
		has(t, &b, 5, "a", Reads)
		has(t, &b, second, "a", Reads)
		holds(t, &b, 5, "a", Reads)
		queue(t, &b, "a")
	}
}

// 5.1: keys have nothing to do with each other; a text of no bytes is one.
func TestKeysAreApart(t *testing.T) {
	var b Table
	has(t, &b, 5, "a", Writes)
	has(t, &b, 3, "b", Writes)
	has(t, &b, 3, "", Writes)
	has(t, &b, 5, "A", Writes)
	waits(t, &b, 5, "b", Reads)
	waits(t, &b, 5, "", Writes)
	waits(t, &b, 3, "a", Reads, 5)
	holds(t, &b, 5, "b", None)
	queue(t, &b, "b", 5)
	queue(t, &b, "A")
	keys(t, &b, "", "A", "a", "b")
}

// 5.1: who holds a key so, or by Writes, has it, whoever waits; by Writes it stays.
func TestHeldAlready(t *testing.T) {
	var b Table
	has(t, &b, 5, "a", Reads)
	has(t, &b, 5, "a", Reads)
	has(t, &b, 5, "b", Writes)
	has(t, &b, 5, "b", Writes)
	has(t, &b, 5, "b", Reads)
	holds(t, &b, 5, "b", Writes)
	waits(t, &b, 3, "a", Writes, 5)
	waits(t, &b, 3, "b", Writes, 5)
	has(t, &b, 5, "a", Reads)
	has(t, &b, 5, "b", Reads)
	has(t, &b, 5, "b", Writes)
	holds(t, &b, 5, "a", Reads)
	holds(t, &b, 5, "b", Writes)
	queue(t, &b, "a", 3)
	queue(t, &b, "b", 3)
}

// 5.1: Writes of who holds by Reads: alone it has them.
func TestMoreAlone(t *testing.T) {
	var b Table
	has(t, &b, 5, "a", Reads)
	has(t, &b, 5, "a", Writes)
	waits(t, &b, 7, "a", Reads)

	var c Table
	has(t, &c, 5, "a", Reads)
	waits(t, &c, 7, "a", Writes)
	has(t, &c, 5, "a", Writes) // the one that waits is younger
	queue(t, &c, "a", 7)
}

// 5.1: Writes of who holds by Reads beside others: it waits, wounds those that are younger, and not itself.
func TestMoreBesideOthers(t *testing.T) {
	var b Table
	for _, tx := range []int{9, 2, 5, 7} {
		has(t, &b, tx, "a", Reads)
	}
	waits(t, &b, 5, "a", Writes, 7, 9)
	waits(t, &b, 9, "a", Writes)
	waits(t, &b, 2, "a", Writes, 5, 7, 9)
	queue(t, &b, "a", 2, 5, 9)
	for _, tx := range []int{2, 5, 7, 9} {
		holds(t, &b, tx, "a", Reads)
	}
}

// 5.1: Writes of who alone holds by Reads: an elder one that waits for Writes is in its way, though it holds nothing.
func TestMoreBehindAnElderOne(t *testing.T) {
	var b Table
	has(t, &b, 5, "a", Reads)
	waits(t, &b, 3, "a", Writes, 5)
	waits(t, &b, 5, "a", Writes)
	holds(t, &b, 5, "a", Reads)
	queue(t, &b, "a", 3, 5)
}

// 5.1: Writes of who holds by Reads, when those that were in its way are released.
func TestMoreWhenOthersAreGone(t *testing.T) {
	var b Table
	has(t, &b, 5, "a", Reads)
	waits(t, &b, 1, "a", Writes, 5)
	waits(t, &b, 3, "a", Reads)
	released(t, &b, 1, Grant{3, "a", Reads})
	released(t, &b, 3)
	has(t, &b, 5, "a", Writes)
	waits(t, &b, 3, "a", Reads, 5)
	waits(t, &b, 4, "a", Writes, 5)
	waits(t, &b, 2, "a", Reads, 5)
	released(t, &b, 5, Grant{2, "a", Reads}, Grant{3, "a", Reads})
	queue(t, &b, "a", 4)
}

// 5.1: elder ones that wait are in the way, or not; younger ones never are.
func TestElderAndYoungerOnesThatWait(t *testing.T) {
	var b Table
	has(t, &b, 1, "a", Reads)
	waits(t, &b, 4, "a", Writes)
	has(t, &b, 2, "a", Reads)   // 4 is younger
	waits(t, &b, 6, "a", Reads) // 4 is elder, and wants Writes
	waits(t, &b, 5, "a", Writes)
	waits(t, &b, 3, "a", Writes)
	queue(t, &b, "a", 3, 4, 5, 6)

	var c Table
	has(t, &c, 9, "a", Writes)
	waits(t, &c, 4, "a", Reads, 9)
	waits(t, &c, 6, "a", Reads, 9) // 4 is elder, but both want Reads: 9 is in the way
	released(t, &c, 9, Grant{4, "a", Reads}, Grant{6, "a", Reads})
	waits(t, &c, 5, "a", Writes, 6)
	waits(t, &c, 7, "a", Reads)
	has(t, &c, 3, "a", Reads)
}

// 5.1: who is elder, waits, or is not in the way, is not wounded.
func TestNotWounded(t *testing.T) {
	var b Table
	has(t, &b, 6, "a", Reads)
	has(t, &b, 8, "a", Reads)
	waits(t, &b, 2, "a", Writes, 6, 8)
	waits(t, &b, 4, "a", Reads)        // it waits for 2; 6 and 8 read, too
	waits(t, &b, 7, "a", Writes, 8)    // 6 is elder
	waits(t, &b, 9, "a", Writes)       // both are
	waits(t, &b, 1, "a", Writes, 6, 8) // 2, 4, 7 and 9 only wait
	queue(t, &b, "a", 1, 2, 4, 7, 9)
}

// 5.1: one that holds by Reads, and waits for Writes, is not in the way of an elder one's Reads.
func TestWantsMoreButHasReads(t *testing.T) {
	var b Table
	has(t, &b, 6, "a", Reads)
	has(t, &b, 7, "a", Reads)
	waits(t, &b, 7, "a", Writes)
	has(t, &b, 5, "a", Reads)
	waits(t, &b, 8, "a", Reads) // 7 is elder than 8, and waits
	waits(t, &b, 2, "a", Writes, 5, 6, 7)
	waits(t, &b, 3, "a", Reads)
}

// 5.1: those that are wounded are told rising, however they came.
func TestWoundedRising(t *testing.T) {
	var b Table
	var want []int
	for i := range 40 {
		has(t, &b, 10+i*17%40, "a", Reads)
		want = append(want, 10+i)
	}
	waits(t, &b, 9, "a", Writes, want...)
	waits(t, &b, 30, "a", Writes, want[21:]...)
}

// 5.1: ErrArg: a mode that is neither Reads nor Writes, ahead of all else.
func TestNoSuchMode(t *testing.T) {
	var b Table
	has(t, &b, 5, "a", Writes)
	waits(t, &b, 3, "a", Reads, 5)
	for _, mode := range []int{None, 3, 4, -1, -2, math.MinInt, math.MaxInt} {
		refused(t, &b, 5, "a", mode, api.ErrArg)
		refused(t, &b, 3, "a", mode, api.ErrArg) // not ErrTwice
		refused(t, &b, 1, "b", mode, api.ErrArg)
		refused(t, &b, 1, strings.Repeat("k", api.MaxKey+1), mode, api.ErrArg) // not ErrLimit
	}
	keys(t, &b, "a")
}

// 5.1: ErrLimit: a name of more than MaxKey bytes.
func TestLongNames(t *testing.T) {
	var b Table
	for _, name := range []string{strings.Repeat("k", api.MaxKey), strings.Repeat("é", api.MaxKey/2), strings.Repeat("\xff", api.MaxKey)} {
		has(t, &b, 5, name, Writes)
		waits(t, &b, 3, name, Reads, 5)
		for _, mode := range []int{Reads, Writes} {
			refused(t, &b, 5, name+"k", mode, api.ErrLimit)
			refused(t, &b, 1, "\x00"+name, mode, api.ErrLimit)
			refused(t, &b, 1, name+name, mode, api.ErrLimit)
		}
		holds(t, &b, 5, name+"k", None)
		queue(t, &b, name+"k")
	}
	refused(t, &b, 1, strings.Repeat("é", api.MaxKey/2+1), Reads, api.ErrLimit)
}

// 5.1: ErrTwice: it waits for that key, whatever it wants now, and however it holds it.
func TestWaitsAlready(t *testing.T) {
	var b Table
	has(t, &b, 5, "a", Reads)
	has(t, &b, 7, "a", Reads)
	waits(t, &b, 7, "a", Writes)
	waits(t, &b, 9, "a", Reads)
	for _, tx := range []int{7, 9} {
		refused(t, &b, tx, "a", Reads, api.ErrTwice) // 7 holds it so: ErrTwice is told first
		refused(t, &b, tx, "a", Writes, api.ErrTwice)
	}
	has(t, &b, 9, "b", Writes)
	released(t, &b, 5, Grant{7, "a", Writes})
	has(t, &b, 7, "a", Writes)
	refused(t, &b, 9, "a", Reads, api.ErrTwice)
}

// crowd has a key held by 100, by Reads, and so many that wait for it by Writes: 101, 102, ..
func crowd(t *testing.T, many int) *Table {
	t.Helper()
	var b Table
	has(t, &b, 100, "a", Reads)
	for i := range many {
		waits(t, &b, 101+i, "a", Writes)
	}
	return &b
}

// 5.1: ErrLimit: 50 wait for that key; nobody is wounded then.
func TestFiftyWait(t *testing.T) {
	b := crowd(t, 49)
	waits(t, b, 40, "a", Writes, 100)
	refused(t, b, 41, "a", Writes, api.ErrLimit)
	refused(t, b, 30, "a", Writes, api.ErrLimit)
	refused(t, b, 200, "a", Writes, api.ErrLimit)
	refused(t, b, 200, "a", Reads, api.ErrLimit)
	refused(t, b, 100, "a", Writes, api.ErrLimit) // 40 is elder
	refused(t, b, 40, "a", Writes, api.ErrTwice)  // told ahead of ErrLimit
	refused(t, b, 149, "a", Reads, api.ErrTwice)
	has(t, b, 100, "a", Reads)
	has(t, b, 39, "a", Reads)
	has(t, b, 40, "b", Writes)
	waits(t, b, 41, "b", Writes)

	released(t, b, 149)
	waits(t, b, 200, "a", Reads)
	refused(t, b, 201, "a", Reads, api.ErrLimit)
}

// 5.1: who alone holds by Reads has Writes, though 50 younger ones wait.
func TestMoreThoughFiftyWait(t *testing.T) {
	b := crowd(t, 50)
	has(t, b, 100, "a", Writes)
	refused(t, b, 1, "a", Reads, api.ErrLimit)
}

// 5.1: transactions are numbers, whichever: the less, the elder.
func TestAnyNumber(t *testing.T) {
	var b Table
	all := []int{math.MinInt, -api.MaxNumber, -1, 0, 1, api.MaxNumber, math.MaxInt}
	for _, tx := range all {
		has(t, &b, tx, "a", Reads)
	}
	waits(t, &b, 0, "a", Writes, 1, api.MaxNumber, math.MaxInt)
	waits(t, &b, math.MaxInt, "a", Writes)
	waits(t, &b, math.MinInt, "a", Writes, all[1:]...)
	queue(t, &b, "a", math.MinInt, 0, math.MaxInt)
	holds(t, &b, 2, "a", None)
}
