package locks

import (
	"cmp"
	"slices"
)

// claim is a transaction at a key: how it holds that key, or wants it.
type claim struct{ tx, mode int }

// key is who holds it, and who waits for it: the elder ones first, none twice in one of the lists.
type key struct{ held, waits []claim }

// inWay says whether two are in each other's way: one that holds is asked by how it does, whatever else it waits for.
func inWay(a, b claim) bool {
	return a.tx != b.tx && (a.mode == Writes || b.mode == Writes)
}

// free says whether one may have the key now.
func (k *key) free(c claim) bool {
	holder := func(o claim) bool { return inWay(o, c) }
	elder := func(o claim) bool { return o.tx < c.tx && inWay(o, c) }
	return !slices.ContainsFunc(k.held, holder) && !slices.ContainsFunc(k.waits, elder)
}

// wounded is who is younger than one that waits, and holds the key in its way, rising.
func (k *key) wounded(c claim) []int {
	spared := func(o claim) bool { return o.tx < c.tx || !inWay(o, c) }
	return txs(slices.DeleteFunc(slices.Clone(k.held), spared))
}

// leave takes a transaction from those that hold the key, and from those that wait for it.
func (k *key) leave(tx int) {
	its := func(c claim) bool { return c.tx == tx }
	k.held = slices.DeleteFunc(k.held, its)
	k.waits = slices.DeleteFunc(k.waits, its)
}

// pass lets those hold the key that wait and may have it now, and tells them. The elder ones come first: whoever comes finds all elder ones that still wait, and those are all that matter to it.
func (k *key) pass() []claim {
	var got []claim
	queue := k.waits
	k.waits = nil
	for _, c := range queue {
		if !k.free(c) {
			k.waits = append(k.waits, c)
			continue
		}
		k.held = with(k.held, c)
		got = append(got, c)
	}
	return got
}

// place is where a transaction is, or would be, among claims.
func place(l []claim, tx int) (int, bool) {
	return slices.BinarySearchFunc(l, tx, func(c claim, tx int) int { return cmp.Compare(c.tx, tx) })
}

// modeOf is how a transaction is among claims.
func modeOf(l []claim, tx int) int {
	n, ok := place(l, tx)
	if !ok {
		return None
	}
	return l[n].mode
}

// with is claims and one more; it takes the place of what its transaction had.
func with(l []claim, c claim) []claim {
	n, ok := place(l, c.tx)
	if ok {
		l[n] = c
		return l
	}
	return slices.Insert(l, n, c)
}

// txs is the transactions of claims.
func txs(l []claim) []int {
	var out []int
	for _, c := range l {
		out = append(out, c.tx)
	}
	return out
}
