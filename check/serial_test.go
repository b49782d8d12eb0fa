package check

import (
	"slices"
	"strconv"
	"testing"
)

// several is so many transactions beside each other that do nothing.
func several(many int) []Tx {
	var l []Tx
	for range many {
		l = append(l, beside())
	}
	return l
}

// up is the numbers below another one, rising.
func up(many int) []int {
	var l []int
	for n := range many {
		l = append(l, n)
	}
	return l
}

// 6.2: of no transactions there is the order that is empty.
func TestNoTransactions(t *testing.T) {
	fits(t, "nil", nil)
	fits(t, "none", []Tx{})
}

// 6.2: ErrLimit from 9 transactions on, whether they were done or not, and from 41 Ops of one on.
func TestLimits(t *testing.T) {
	for many := range 9 {
		fits(t, strconv.Itoa(many)+" transactions", several(many), up(many)...)
	}
	for _, many := range []int{9, 10, 100, 100_000} {
		limited(t, strconv.Itoa(many)+" transactions", several(many))
	}
	limited(t, "9 that were never told", slices.Repeat([]Tx{open()}, 9))
	limited(t, "9 that cannot be", slices.Repeat([]Tx{beside(get("a", "x"))}, 9))

	fits(t, "40 Ops", []Tx{beside(slices.Repeat([]Op{put("a", "x")}, 40)...)}, 0)
	fits(t, "40 Ops of each of 8", slices.Repeat([]Tx{beside(slices.Repeat([]Op{put("a", "x")}, 40)...)}, 8), up(8)...)
	for _, many := range []int{41, 42, 1000} {
		limited(t, strconv.Itoa(many)+" Ops", []Tx{beside(slices.Repeat([]Op{put("a", "x")}, many)...)})
	}
	limited(t, "41 Ops that do nothing", []Tx{beside(make([]Op, 41)...)})
	limited(t, "41 Ops of one that was never told", []Tx{open(make([]Op, 41)...)})
	limited(t, "41 Ops of the last one", append(several(7), beside(make([]Op, 41)...)))
	limited(t, "41 Ops behind one that cannot be", []Tx{beside(get("a", "x")), beside(make([]Op, 41)...)})
	limited(t, "9 transactions, 41 Ops", append(several(8), beside(make([]Op, 41)...)))
}

// 6.2: all 40 Ops of a transaction are looked at.
func TestLastOp(t *testing.T) {
	ops := slices.Repeat([]Op{put("a", "x")}, 39)
	alone(t, "the 40th is so", true, append(ops, get("a", "x"))...)
	alone(t, "the 40th is not so", false, append(ops, get("a", "y"))...)
}

// 6.2: of orders that fit the least is told, number by number.
func TestLeast(t *testing.T) {
	fits(t, "any order of three", several(3), 0, 1, 2)
	fits(t, "0 may stand first or last", []Tx{beside(), beside(get("a", "x")), beside(put("a", "x"))}, 0, 2, 1)
	fits(t, "0 must be behind one of two", []Tx{beside(get("a", "x")), beside(put("a", "x")), beside(put("a", "x"))}, 1, 0, 2)
	fits(t, "0 must be behind 2", []Tx{tx(5, 9), tx(0, 9), tx(0, 4)}, 1, 2, 0)
	fits(t, "1 and 2 stand ahead of it", []Tx{beside(get("a", "x")), beside(put("b", "z")), beside(put("a", "x"))}, 1, 2, 0)
	fits(t, "1 in between spoils it", []Tx{beside(get("a", "x")), beside(put("a", "y")), beside(put("a", "x"))}, 1, 2, 0)
	fits(t, "1 ahead finds nothing to take away", []Tx{beside(none("a")), beside(del("a")), beside(put("a", "x"))}, 0, 1, 2)
	fits(t, "the first number decides", []Tx{beside(put("a", "x")), beside(none("a"), none("b")), beside(none("b")), beside(put("b", "y"))}, 1, 0, 2, 3)
}

// 6.2: an order that is the beginning of another one is less than it; but one with a less number ahead is less than a shorter one.
func TestBeginning(t *testing.T) {
	fits(t, "open ones are left out behind", []Tx{beside(), open(), open()}, 0)
	fits(t, "an open one of a less number is in, ahead", []Tx{open(), beside()}, 0, 1)
	fits(t, "as many of them as are less", []Tx{open(), open(), beside(), open()}, 0, 1, 2)
	fits(t, "an open one that spoils it is out", []Tx{open(put("a", "x")), open(), beside(none("a"))}, 1, 2)
	fits(t, "an open one that cannot be so is out", []Tx{open(get("a", "x")), beside()}, 1)
	fits(t, "an open one of a less number between", []Tx{open(get("a", "x")), beside(put("a", "x")), beside()}, 1, 0, 2)
	fits(t, "an open one that may stand behind the last alone is out", []Tx{tx(5, -1), tx(0, 4)}, 1)
	fits(t, "an open one behind the first", []Tx{tx(5, -1), tx(0, 4), tx(0, 9)}, 1, 0, 2)
	fits(t, "nobody was told: nobody is there", []Tx{open(), open(put("a", "x"))})
	fits(t, "all of the open ones, ahead", []Tx{open(), open(), open(), open(), open(), open(), open(), beside()}, up(8)...)
}

// 6.2: false, if no order fits, however many there are: each goes through all that could be one.
func TestNone(t *testing.T) {
	refused(t, "a key that nobody put", []Tx{beside(put("a", "x")), beside(get("b", "x"))})
	refused(t, "a value that nobody put", []Tx{beside(put("a", "x")), beside(get("a", "y")), open(put("b", "y"))})
	refused(t, "one write is lost", []Tx{beside(put("a", "x")), beside(get("a", "x"), put("a", "y")), beside(get("a", "x"), put("a", "z"))})
	refused(t, "two see two writes the other way round", []Tx{
		beside(put("a", "x")), beside(put("b", "x")), beside(get("a", "x"), none("b")), beside(get("b", "x"), none("a")),
	})
	refused(t, "an old value behind a new one", []Tx{tx(0, 1, put("a", "x")), tx(2, 9, put("a", "y")), tx(3, 4, get("a", "y")), tx(5, 6, get("a", "x"))})
	fits(t, "an old value beside a new one", []Tx{tx(0, 1, put("a", "x")), tx(2, 9, put("a", "y")), tx(3, 6, get("a", "y")), tx(5, 6, get("a", "x"))}, 0, 3, 1, 2)
}

// 6.2: going back from what did not fit gives back all that was there, also of keys that were written more than once.
func TestGoingBack(t *testing.T) {
	fits(t, "written twice, then not so", []Tx{
		beside(put("a", "x"), put("a", "y"), del("a"), get("b", "z")), beside(none("a"), put("b", "z")),
	}, 1, 0)
	fits(t, "a value is given back", []Tx{
		tx(0, 1, put("a", "w")), tx(2, 9, put("a", "x"), put("a", "y"), get("b", "z")), tx(2, 9, get("a", "w"), put("b", "z")),
	}, 0, 2, 1)
	fits(t, "what was taken away is given back", []Tx{
		tx(0, 1, put("a", "w")), tx(2, 9, del("a"), del("a"), get("b", "z")), tx(2, 9, get("a", "w"), put("b", "z")),
	}, 0, 2, 1)
	fits(t, "it is given back two transactions behind", []Tx{
		beside(put("a", "x"), put("c", "1")), beside(put("a", "y"), put("c", "2")), beside(none("a"), none("c"), put("b", "z")), beside(get("b", "z"), get("a", "y"), put("a", "z")),
	}, 2, 0, 1, 3)
}
