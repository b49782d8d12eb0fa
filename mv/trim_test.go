package mv

import (
	"math"
	"testing"

	"chainmail/api"
)

// 3.2: Trim: ErrOrder, if it is below Low; ErrRange, if it is above MaxNumber; nothing is changed then.
func TestTrimWrong(t *testing.T) {
	var s Store
	for _, to := range []int{-1, math.MinInt} {
		is(t, "Trim of a zero value", s.Trim(to), api.ErrOrder)
	}
	set(t, &s, 1, "a", "x")
	set(t, &s, 2, "a", "y")
	set(t, &s, 8, "a", "z")
	trim(t, &s, 1)
	for _, to := range []int{0, -1, math.MinInt} {
		is(t, "Trim below Low", s.Trim(to), api.ErrOrder)
	}
	for _, to := range []int{api.MaxNumber + 1, math.MaxInt} {
		is(t, "Trim above MaxNumber", s.Trim(to), api.ErrRange)
	}
	count(t, "Low", s.Low(), 1)
	count(t, "Many", s.Many(), 3)
	has(t, &s, "a", 1, "x")
	has(t, &s, "a", 2, "y")
	has(t, &s, "a", 8, "z")
}

// 3.2: what is ahead of Low can't be asked; a time at Low can.
func TestLow(t *testing.T) {
	var s Store
	set(t, &s, 3, "a", "x")
	trim(t, &s, 4)
	has(t, &s, "a", 4, "x")
	all(t, &s, 4, "a", "x")
	for _, at := range []int{3, 0, -1, math.MinInt} {
		unasked(t, &s, "a", at)
		unasked(t, &s, "b", at)
	}
	var none Store
	trim(t, &none, 2)
	unasked(t, &none, "a", 1)
	not(t, &none, "a", 2, api.OK)
	all(t, &none, 2)
}

// 3.2: those versions go that another one of a time at most to follows.
func TestTrimForgets(t *testing.T) {
	for _, c := range []struct{ to, many int }{
		{0, 4}, {1, 4}, {2, 4}, {3, 4}, {4, 3}, {5, 3}, {6, 2}, {7, 2}, {8, 1}, {9, 1}, {api.MaxNumber, 1},
	} {
		var s Store
		for _, time := range []int{2, 4, 6, 8} {
			set(t, &s, time, "a", string(rune('0'+time)))
		}
		trim(t, &s, c.to)
		count(t, "Many", s.Many(), c.many)
		for at := max(c.to, 2); at < 12; at++ {
			has(t, &s, "a", at, string(rune('0'+min(at/2*2, 8))))
		}
		has(t, &s, "a", math.MaxInt, "8")
	}
}

// 3.2: the first one left goes, if it is Gone, and of a time at most to.
func TestTrimForgetsWhatIsGone(t *testing.T) {
	for _, c := range []struct{ to, many int }{{3, 4}, {4, 2}, {5, 2}, {6, 2}, {7, 2}, {8, 0}, {api.MaxNumber, 0}} {
		var s Store
		set(t, &s, 2, "a", "x")
		drop(t, &s, 4, "a")
		set(t, &s, 6, "a", "y")
		drop(t, &s, 8, "a")
		trim(t, &s, c.to)
		count(t, "Many", s.Many(), c.many)
		if c.to < 8 {
			has(t, &s, "a", 7, "y")
		}
		not(t, &s, "a", math.MaxInt, api.OK)
	}
}

// 3.2: one that is Gone stays if its time is above to, also if it is the first one.
func TestTrimLeavesWhatIsGoneLater(t *testing.T) {
	var s Store
	drop(t, &s, 5, "a")
	drop(t, &s, 7, "a")
	trim(t, &s, 4)
	count(t, "Many", s.Many(), 2)
	is(t, "Put", s.Put(5, api.Pair{Key: "a"}), api.ErrTwice)
	trim(t, &s, 5)
	count(t, "Many", s.Many(), 1)
	is(t, "Put", s.Put(7, api.Pair{Key: "a"}), api.ErrTwice)
	trim(t, &s, 7)
	count(t, "Many", s.Many(), 0)
}

// 3.2: of several that are Gone one behind the other all go that are of a time at most to, and no other one.
func TestTrimSeveralGone(t *testing.T) {
	var s Store
	for _, time := range []int{1, 2, 3, 4} {
		drop(t, &s, time, "a")
	}
	set(t, &s, 9, "a", "x")
	trim(t, &s, 3)
	count(t, "Many", s.Many(), 2)
	not(t, &s, "a", 8, api.OK)
	has(t, &s, "a", 9, "x")
}

// 3.2: each key is trimmed by its own versions.
func TestTrimEachKey(t *testing.T) {
	var s Store
	set(t, &s, 1, "a", "x")
	set(t, &s, 1, "b", "x")
	set(t, &s, 3, "b", "y")
	set(t, &s, 1, "c", "x")
	drop(t, &s, 2, "c")
	set(t, &s, 5, "d", "x")
	drop(t, &s, 6, "d")
	trim(t, &s, 3)
	count(t, "Many", s.Many(), 4)
	count(t, "keys that lie there", len(s.keys), 3)
	all(t, &s, 3, "a", "x", "b", "y")
	all(t, &s, 5, "a", "x", "b", "y", "d", "x")
	all(t, &s, 6, "a", "x", "b", "y")
}

// 3.2: Trim at Low lets go what was put there since.
func TestTrimAtLow(t *testing.T) {
	var s Store
	trim(t, &s, 0)
	set(t, &s, 2, "a", "x")
	trim(t, &s, 4)
	trim(t, &s, 4)
	count(t, "Many", s.Many(), 1)
	set(t, &s, 4, "a", "y")
	count(t, "Many", s.Many(), 2)
	trim(t, &s, 4)
	count(t, "Many", s.Many(), 1)
	has(t, &s, "a", 4, "y")
	drop(t, &s, 4, "b")
	trim(t, &s, 4)
	count(t, "Many", s.Many(), 1)
	set(t, &s, 4, "b", "there again")
	has(t, &s, "b", 4, "there again")
}

// 3.2: Trim at MaxNumber leaves of each key that is there its last version.
func TestTrimToMaxNumber(t *testing.T) {
	var s Store
	set(t, &s, 0, "a", "x")
	set(t, &s, api.MaxNumber, "a", "y")
	set(t, &s, 0, "b", "x")
	set(t, &s, 0, "c", "x")
	drop(t, &s, api.MaxNumber, "c")
	trim(t, &s, api.MaxNumber)
	count(t, "Many", s.Many(), 2)
	all(t, &s, api.MaxNumber, "a", "y", "b", "x")
	unasked(t, &s, "a", api.MaxNumber-1)
	is(t, "Put", s.Put(api.MaxNumber-1, api.Pair{Key: "a"}), api.ErrNone)
	is(t, "Put", s.Put(api.MaxNumber, api.Pair{Key: "a"}), api.ErrTwice)
	set(t, &s, api.MaxNumber, "b", "z")
	is(t, "Trim", s.Trim(api.MaxNumber-1), api.ErrOrder)
	is(t, "Trim", s.Trim(api.MaxNumber+1), api.ErrRange)
	trim(t, &s, api.MaxNumber)
	all(t, &s, math.MaxInt, "a", "y", "b", "z")
}
