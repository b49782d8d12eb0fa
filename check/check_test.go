package check

import (
	"math"
	"slices"
	"testing"

	"chainmail/api"
	"chainmail/plain"
)

// is checks that an error is that one, without a place.
func is(t *testing.T, what string, err error, want api.Errno) {
	t.Helper()
	if e, bare := plain.Bare(err); e != want || !bare {
		t.Errorf("%s: error %v, want %v", what, err, want)
	}
}

// Operations: a Get that found something, one that found nothing, a Put, a Del.
func get(key, value string) Op { return Op{Kind: Get, Key: key, Value: value, Found: true} }
func none(key string) Op       { return Op{Kind: Get, Key: key} }
func put(key, value string) Op { return Op{Kind: Put, Key: key, Value: value} }
func del(key string) Op        { return Op{Kind: Del, Key: key} }

// tx is a transaction from then on, told at another time that it is done.
func tx(from, to int, ops ...Op) Tx { return Tx{Ops: ops, From: from, To: to} }

// beside is a transaction beside all others: it tells nothing of who is ahead.
func beside(ops ...Op) Tx { return tx(0, math.MaxInt, ops...) }

// open is one that was never told that it is done.
func open(ops ...Op) Tx { return tx(0, -1, ops...) }

// fits checks that the least order that fits is that one.
func fits(t *testing.T, what string, l []Tx, want ...int) {
	t.Helper()
	got, ok, err := Serial(l)
	is(t, what, err, api.OK)
	if !ok || !slices.Equal(got, want) {
		t.Errorf("%s: %v %v, want %v true", what, got, ok, want)
	}
}

// refused checks that no order fits.
func refused(t *testing.T, what string, l []Tx) {
	t.Helper()
	got, ok, err := Serial(l)
	is(t, what, err, api.OK)
	if ok || len(got) > 0 {
		t.Errorf("%s: %v %v, want none", what, got, ok)
	}
}

// limited checks that a history is too long.
func limited(t *testing.T, what string, l []Tx) {
	t.Helper()
	got, ok, err := Serial(l)
	is(t, what, err, api.ErrLimit)
	if ok || len(got) > 0 {
		t.Errorf("%s: %v %v beside an error", what, got, ok)
	}
}

// alone checks what one transaction by itself may tell.
func alone(t *testing.T, what string, want bool, ops ...Op) {
	t.Helper()
	if want {
		fits(t, what, []Tx{beside(ops...)}, 0)
	} else {
		refused(t, what, []Tx{beside(ops...)})
	}
}

// 6.1: the kinds are Get, Put, Del, from 1 on.
func TestKinds(t *testing.T) {
	if Get != 1 || Put != 2 || Del != 3 {
		t.Errorf("kinds %d %d %d", Get, Put, Del)
	}
}

// 6.1: from nothing on; a transaction finds what it did itself, in order.
func TestOneAlone(t *testing.T) {
	alone(t, "no operations", true)
	alone(t, "Get of nothing", true, none("a"))
	alone(t, "Get of what nobody put", false, get("a", "x"))
	alone(t, "Get of what nobody put, and no bytes", false, get("a", ""))
	alone(t, "Put and Get", true, put("a", "x"), get("a", "x"))
	alone(t, "Get ahead of Put", false, get("a", "x"), put("a", "x"))
	alone(t, "nothing ahead of Put", true, none("a"), put("a", "x"))
	alone(t, "nothing behind Put", false, put("a", "x"), none("a"))
	alone(t, "another value", false, put("a", "x"), get("a", "y"))
	alone(t, "a beginning of a value", false, put("a", "xy"), get("a", "x"))
	alone(t, "another key", false, put("a", "x"), get("b", "x"))
	alone(t, "nothing at another key", true, put("a", "x"), none("b"))
	alone(t, "the last Put", true, put("a", "x"), put("a", "y"), get("a", "y"))
	alone(t, "the first Put of two", false, put("a", "x"), put("a", "y"), get("a", "x"))
	alone(t, "Put, Del", true, put("a", "x"), del("a"), none("a"))
	alone(t, "Get behind Del", false, put("a", "x"), del("a"), get("a", "x"))
	alone(t, "Get of no bytes behind Del", false, put("a", "x"), del("a"), get("a", ""))
	alone(t, "Put behind Del", true, put("a", "x"), del("a"), put("a", "y"), get("a", "y"))
	alone(t, "Del of nothing", true, del("a"), none("a"))
	alone(t, "Del of another key", true, put("a", "x"), del("b"), get("a", "x"))
	alone(t, "a Get changes nothing", true, put("a", "x"), get("a", "x"), get("a", "x"))
	alone(t, "the last Get is wrong", false, put("a", "x"), get("a", "x"), none("a"))
}

// 6.1: keys and values are bytes; none of them are a key, and a value.
func TestTexts(t *testing.T) {
	alone(t, "a key of no bytes", true, put("", "x"), get("", "x"), none("a"))
	alone(t, "a value of no bytes is found", true, put("a", ""), get("a", ""))
	alone(t, "a value of no bytes is not nothing", false, put("a", ""), none("a"))
	alone(t, "bytes that are no runes", true, put("\xff", "\xfe"), get("\xff", "\xfe"), none("\ufffd"))
	alone(t, "another case", false, put("a", "x"), get("A", "x"))
}

// 6.1: a Get that is not Found tells nothing by its Value; what a Put or a Del is said to have found, or a Del's Value, does not matter.
func TestFieldsThatDoNotMatter(t *testing.T) {
	alone(t, "not Found, with a Value", true, Op{Kind: Get, Key: "a", Value: "x"})
	alone(t, "not Found, with the Value", false, put("a", "x"), Op{Kind: Get, Key: "a", Value: "x"})
	alone(t, "Put that is Found", true, Op{Kind: Put, Key: "a", Value: "x", Found: true}, get("a", "x"))
	alone(t, "Del with a Value", true, put("a", "x"), Op{Kind: Del, Key: "a", Value: "x"}, none("a"))
	alone(t, "Del that is Found", true, Op{Kind: Del, Key: "a", Value: "x", Found: true}, none("a"))
}

// 6.1: what is neither Get, Put nor Del does nothing.
func TestNoSuchKind(t *testing.T) {
	for _, kind := range []int{0, 4, 5, -1, -3, 1 + 1<<8, 2 + 1<<32, math.MaxInt, math.MinInt} {
		wrong := Op{Kind: kind, Key: "a", Value: "y", Found: true}
		alone(t, "it asks nothing", true, wrong)
		alone(t, "it sets nothing", true, wrong, none("a"))
		alone(t, "it changes nothing", true, put("a", "x"), wrong, get("a", "x"))
		alone(t, "it ends nothing", false, wrong, get("a", "y"))
	}
}

// 6.1: a key that one reads, and another one puts: who reads it stands behind, who finds nothing ahead (example 6).
func TestTwo(t *testing.T) {
	fits(t, "reads x, puts x", []Tx{beside(get("a", "x")), beside(put("a", "x"))}, 1, 0)
	fits(t, "puts x, reads x", []Tx{beside(put("a", "x")), beside(get("a", "x"))}, 0, 1)
	fits(t, "puts x, reads nothing", []Tx{beside(put("a", "x")), beside(none("a"))}, 1, 0)
	fits(t, "reads nothing, puts x", []Tx{beside(none("a")), beside(put("a", "x"))}, 0, 1)
	refused(t, "puts x, reads y", []Tx{beside(put("a", "x")), beside(get("a", "y"))})
	refused(t, "puts b, reads a", []Tx{beside(put("b", "x")), beside(get("a", "x"))})
	refused(t, "each reads the other one's", []Tx{beside(get("a", "x"), put("b", "x")), beside(get("b", "x"), put("a", "x"))})
	refused(t, "both find nothing, and put it", []Tx{beside(none("a"), put("a", "x")), beside(none("a"), put("a", "x"))})
	refused(t, "a Get in between", []Tx{beside(put("a", "x"), put("a", "y")), beside(get("a", "x"))})
	refused(t, "one transaction in between another one's Ops", []Tx{beside(none("a"), get("a", "x")), beside(put("a", "x"))})
	fits(t, "one sees the other one, which does not see it", []Tx{beside(none("a"), put("b", "x")), beside(get("b", "x"), put("a", "x"))}, 0, 1)
	refused(t, "neither sees the other one", []Tx{beside(none("a"), put("b", "x")), beside(none("b"), put("a", "x"))})
}

// 6.1: several, that read what others put or took away.
func TestSeveral(t *testing.T) {
	fits(t, "put, taken away, read between and behind", []Tx{
		beside(none("a"), put("b", "z")), beside(get("a", "x"), del("a")), beside(get("a", "x")), beside(put("a", "x")), beside(get("b", "z")),
	}, 0, 3, 2, 1, 4)
	fits(t, "a counter", []Tx{
		beside(get("n", "2"), put("n", "3")), beside(get("n", "1"), put("n", "2")), beside(none("n"), put("n", "1")), beside(get("n", "3"), del("n")),
	}, 2, 1, 0, 3)
	refused(t, "a counter with one twice", []Tx{
		beside(get("n", "1"), put("n", "2")), beside(get("n", "1"), put("n", "2")), beside(none("n"), put("n", "1")),
	})
	fits(t, "what is taken away is gone", []Tx{beside(none("a"), put("c", "z")), beside(put("a", "x"), del("b")), beside(get("a", "x"), del("a"), get("c", "z"))}, 0, 1, 2)
	refused(t, "nobody sets it again", []Tx{tx(0, 1, put("a", "x")), tx(2, 3, del("a")), tx(4, 5, get("a", "x"))})
	fits(t, "somebody sets it again", []Tx{tx(0, 1, put("a", "x")), tx(2, 3, del("a")), tx(4, 5, get("a", "x")), tx(0, 9, put("a", "x"))}, 0, 1, 3, 2)
}

// 6.1: whoever was told that it is done ahead of another one's From is ahead of it: just at it is not ahead.
func TestAhead(t *testing.T) {
	readsX, putsX := get("a", "x"), put("a", "x")
	refused(t, "the reader was done ahead", []Tx{tx(0, 4, readsX), tx(5, 9, putsX)})
	fits(t, "To is the other one's From", []Tx{tx(0, 5, readsX), tx(5, 9, putsX)}, 1, 0)
	fits(t, "To is behind the other one's From", []Tx{tx(0, 6, readsX), tx(5, 9, putsX)}, 1, 0)
	fits(t, "the writer was done ahead", []Tx{tx(5, 9, readsX), tx(0, 4, putsX)}, 1, 0)
	refused(t, "of what was done ahead it found nothing", []Tx{tx(0, 4, putsX), tx(5, 9, none("a"))})
	fits(t, "just beside it, it found nothing", []Tx{tx(0, 5, putsX), tx(5, 9, none("a"))}, 1, 0)
	fits(t, "a greater number ahead", []Tx{tx(5, 9), tx(0, 4)}, 1, 0)
	fits(t, "a greater number beside", []Tx{tx(5, 9), tx(0, 5)}, 0, 1)
	fits(t, "a chain of them", []Tx{tx(8, 9), tx(6, 7), tx(4, 5), tx(2, 3), tx(0, 1)}, 4, 3, 2, 1, 0)
	fits(t, "To is 0: it is done", []Tx{tx(1, 9), tx(-3, 0)}, 1, 0)
	fits(t, "To is 0, and so is From", []Tx{tx(0, 9), tx(-3, 0)}, 0, 1)
	fits(t, "far off", []Tx{tx(math.MaxInt, math.MaxInt), tx(math.MinInt, math.MaxInt-1)}, 1, 0)
	fits(t, "far off, beside", []Tx{tx(math.MinInt, math.MaxInt), tx(math.MinInt, 0)}, 0, 1)
}

// 6.1: times that nobody can have: one that ends ahead of its own beginning is not ahead of itself; two that are ahead of each other are in no order.
func TestTimesThatCannotBe(t *testing.T) {
	fits(t, "its own end is ahead of its beginning", []Tx{tx(9, 3)}, 0)
	refused(t, "each ahead of the other one", []Tx{tx(9, 3), tx(9, 3)})
	fits(t, "one of them was never told", []Tx{tx(9, 3), tx(9, -1)}, 0)
	refused(t, "round three", []Tx{tx(9, 4), tx(5, 6), tx(7, 8)})
	fits(t, "not round three", []Tx{tx(4, 4), tx(5, 6), tx(7, 8)}, 0, 1, 2)
}

// 6.1: whoever was never told that it is done may be there, or not, behind those that were done ahead of its From, and else anywhere.
func TestNeverTold(t *testing.T) {
	fits(t, "it is left out", []Tx{open(put("a", "x"))})
	fits(t, "what it told cannot be", []Tx{open(get("a", "x"))})
	fits(t, "nobody was told", []Tx{open(), open(get("a", "x")), open(put("a", "x"))})
	fits(t, "it is needed", []Tx{beside(get("a", "x")), open(put("a", "x"))}, 1, 0)
	fits(t, "it is not needed", []Tx{beside(none("a")), open(put("a", "x"))}, 0)
	fits(t, "it is left out ahead of another one", []Tx{open(put("a", "x")), beside(none("a"))}, 1)
	fits(t, "its own Gets must be so", []Tx{beside(get("a", "x")), open(none("b"), put("a", "x")), beside(put("b", "y"))}, 1, 0, 2)
	refused(t, "its own Gets are not so", []Tx{beside(get("a", "x")), open(get("b", "y"), put("a", "x"))})
	fits(t, "one needs another one", []Tx{beside(get("a", "x")), open(get("b", "y"), put("a", "x")), open(put("b", "y"))}, 2, 1, 0)
	refused(t, "it began behind", []Tx{tx(0, 4, get("a", "x")), tx(5, -1, put("a", "x"))})
	fits(t, "it began just then", []Tx{tx(0, 5, get("a", "x")), tx(5, -1, put("a", "x"))}, 1, 0)
	refused(t, "others were done ahead of its From", []Tx{tx(6, 9, none("b"), get("a", "x")), tx(0, 4, put("b", "y")), tx(5, -1, put("a", "x"))})
	fits(t, "others were done ahead of its From, and are there", []Tx{tx(6, 9, get("b", "y"), get("a", "x")), tx(5, -1, put("a", "x")), tx(0, 4, put("b", "y"))}, 2, 1, 0)
}

// 6.1: a To below 0, however far, is not ahead of any From.
func TestToBelowNought(t *testing.T) {
	for _, to := range []int{-1, -2, -7, math.MinInt} {
		what := "an open one stands behind one that began later"
		fits(t, what, []Tx{tx(0, to, get("a", "x"), put("b", "y")), tx(5, 6, put("a", "x")), tx(7, 8, get("b", "y"))}, 1, 0, 2)
		fits(t, "it is not ahead of a From below 0", []Tx{tx(-9, to, get("a", "x"), put("b", "y")), tx(-1, 6, put("a", "x")), tx(-1, 6, get("b", "y"))}, 1, 0, 2)
		fits(t, "it need not be there", []Tx{tx(5, 6), tx(-9, to)}, 0)
		refused(t, "it is behind who was done", []Tx{tx(5, to, put("a", "x")), tx(0, 4, get("a", "x"))})
	}
}
