package locks

import (
	"slices"
	"strconv"
	"testing"
)

// released takes a transaction from all keys: those must have keys then, in that order; it is nowhere any more.
func released(t *testing.T, b *Table, tx int, want ...Grant) {
	t.Helper()
	if got := b.Release(tx); !slices.Equal(got, want) {
		t.Errorf("Release %d: %v, want %v", tx, got, want)
	}
	for _, name := range b.Keys() {
		holds(t, b, tx, name, None)
		if slices.Contains(b.Waits(name), tx) {
			t.Errorf("Release %d: it waits for %q", tx, name)
		}
	}
	for _, g := range want {
		holds(t, b, g.Tx, g.Key, g.Mode)
		if slices.Contains(b.Waits(g.Key), g.Tx) {
			t.Errorf("Release %d: %d has %q, and waits for it", tx, g.Tx, g.Key)
		}
	}
}

// The document's example of 5.
func TestExample(t *testing.T) {
	var b Table
	has(t, &b, 5, "a", Writes)
	waits(t, &b, 3, "a", Reads, 5)
	released(t, &b, 5, Grant{3, "a", Reads})
	keys(t, &b, "a")
	queue(t, &b, "a")
}

// 5.2: Release of who has nothing, and waits for nothing: nothing is told, and nothing changes.
func TestReleaseOfNothing(t *testing.T) {
	var b Table
	has(t, &b, 1, "a", Reads)
	waits(t, &b, 3, "a", Writes)
	waits(t, &b, 5, "a", Reads)
	before := view(&b)
	for _, tx := range []int{2, 4, 0, -1, 1 << 40} {
		released(t, &b, tx)
	}
	if got := view(&b); got != before {
		t.Errorf("it was\n%s and is\n%s", before, got)
	}
	released(t, &b, 1, Grant{3, "a", Writes})
	released(t, &b, 1)
}

// 5.2: a key that nobody holds, or waits for, is none any more; who was released may come again.
func TestKeysGo(t *testing.T) {
	var b Table
	has(t, &b, 1, "a", Writes)
	has(t, &b, 1, "b", Reads)
	has(t, &b, 2, "b", Reads)
	keys(t, &b, "a", "b")
	released(t, &b, 1)
	keys(t, &b, "b")
	holds(t, &b, 2, "b", Reads)
	released(t, &b, 2)
	keys(t, &b)
	has(t, &b, 2, "a", Writes)
	waits(t, &b, 1, "a", Writes, 2)
	keys(t, &b, "a")
	if len(b.keys) != 1 {
		t.Errorf("%d keys are kept, want 1", len(b.keys))
	}
}

// 5.2: several have a key behind one Release, the elder ones first, whenever they asked; who is behind an elder one that is in its way waits on.
func TestSeveralHaveAKey(t *testing.T) {
	var b Table
	has(t, &b, 1, "a", Writes)
	for _, tx := range []int{6, 3, 5, 2} {
		waits(t, &b, tx, "a", Reads)
	}
	waits(t, &b, 4, "a", Writes)
	waits(t, &b, 7, "a", Writes)
	released(t, &b, 1, Grant{2, "a", Reads}, Grant{3, "a", Reads})
	queue(t, &b, "a", 4, 5, 6, 7)
	released(t, &b, 2)
	released(t, &b, 3, Grant{4, "a", Writes})
	released(t, &b, 4, Grant{5, "a", Reads}, Grant{6, "a", Reads})
	released(t, &b, 6)
	released(t, &b, 5, Grant{7, "a", Writes})
	released(t, &b, 7)
	keys(t, &b)
}

// 5.2: of those that want Writes one has the key: the eldest one.
func TestOneHasWrites(t *testing.T) {
	var b Table
	has(t, &b, 4, "a", Reads)
	waits(t, &b, 3, "a", Writes, 4)
	waits(t, &b, 5, "a", Writes)
	waits(t, &b, 2, "a", Writes, 4)
	released(t, &b, 4, Grant{2, "a", Writes})
	queue(t, &b, "a", 3, 5)
	released(t, &b, 2, Grant{3, "a", Writes})
	released(t, &b, 3, Grant{5, "a", Writes})
}

// 5.2: when one that waits is released those have the key in whose way it was alone.
func TestReleaseOfWhoWaits(t *testing.T) {
	var b Table
	has(t, &b, 1, "a", Reads)
	waits(t, &b, 3, "a", Writes)
	waits(t, &b, 5, "a", Reads)
	waits(t, &b, 9, "a", Writes)
	waits(t, &b, 7, "a", Reads)
	released(t, &b, 3, Grant{5, "a", Reads}, Grant{7, "a", Reads})
	queue(t, &b, "a", 9)
	released(t, &b, 9)
	queue(t, &b, "a")
	for _, tx := range []int{1, 5, 7} {
		holds(t, &b, tx, "a", Reads)
	}
}

// 5.2: who holds by Reads, and waits for Writes, has them when the others are released.
func TestMoreBehindRelease(t *testing.T) {
	var b Table
	for _, tx := range []int{2, 4, 6} {
		has(t, &b, tx, "a", Reads)
	}
	waits(t, &b, 4, "a", Writes, 6)
	waits(t, &b, 8, "a", Reads)
	released(t, &b, 6)
	holds(t, &b, 4, "a", Reads)
	released(t, &b, 2, Grant{4, "a", Writes})
	queue(t, &b, "a", 8)
	released(t, &b, 4, Grant{8, "a", Reads})
}

// 5.2: one that holds a key, and waits for it, is released from both; two that wait for each other's Reads wait on until then.
func TestReleaseOfBoth(t *testing.T) {
	var b Table
	has(t, &b, 5, "a", Reads)
	has(t, &b, 6, "a", Reads)
	waits(t, &b, 6, "a", Writes)
	waits(t, &b, 5, "a", Writes, 6)
	waits(t, &b, 3, "a", Writes, 5, 6)
	released(t, &b, 6)
	queue(t, &b, "a", 3, 5)
	released(t, &b, 5, Grant{3, "a", Writes})
	queue(t, &b, "a")
	released(t, &b, 3)
	keys(t, &b)
}

// 5.2: key by key, by their bytes, rising, and at each the elder ones first.
func TestSeveralKeys(t *testing.T) {
	names := []string{"", "\x00", "B", "a", "aa", "b", "é", "\xff"}
	var b Table
	var want []Grant
	for i := range names {
		has(t, &b, 5, names[i*3%8], Writes)
	}
	for i := range names {
		waits(t, &b, 7, names[i*5%8], Reads)
		waits(t, &b, 6, names[i*5%8], Reads)
		waits(t, &b, 8, names[i*5%8], Writes)
		want = append(want, Grant{6, names[i], Reads}, Grant{7, names[i], Reads})
	}
	has(t, &b, 1, "c", Reads)
	waits(t, &b, 2, "c", Writes)
	keys(t, &b, "", "\x00", "B", "a", "aa", "b", "c", "é", "\xff")
	released(t, &b, 5, want...)
	released(t, &b, 6)
	want = nil
	for _, name := range names {
		want = append(want, Grant{8, name, Writes})
	}
	released(t, &b, 7, want...)
	queue(t, &b, "c", 2)
	released(t, &b, 8)
	keys(t, &b, "c")
}

// 5.2: one Release lets go keys that are held, and others that are waited for; other keys stay as they are.
func TestHeldAndWaitedFor(t *testing.T) {
	var b Table
	has(t, &b, 5, "b", Writes)
	has(t, &b, 1, "a", Reads)
	waits(t, &b, 5, "a", Writes)
	waits(t, &b, 9, "a", Reads)
	waits(t, &b, 9, "b", Writes)
	has(t, &b, 1, "c", Writes)
	waits(t, &b, 9, "c", Reads)
	released(t, &b, 5, Grant{9, "a", Reads}, Grant{9, "b", Writes})
	queue(t, &b, "c", 9)
	holds(t, &b, 1, "c", Writes)
	released(t, &b, 9)
	keys(t, &b, "a", "c")
}

// 5.2: keys, and who waits, are told in their order, however they came.
func TestTellsInOrder(t *testing.T) {
	var b Table
	var want []string
	var those []int
	for i := range 200 {
		has(t, &b, -1, "k"+strconv.Itoa(100+i*77%200), Writes)
		want = append(want, "k"+strconv.Itoa(100+i))
	}
	for i := range 50 {
		waits(t, &b, i*17%50, "k100", Writes)
		those = append(those, i)
	}
	for range 5 {
		keys(t, &b, want...)
	}
	queue(t, &b, "k100", those...)
}
