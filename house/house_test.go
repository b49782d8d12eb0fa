package house

import (
	"math"
	"strings"
	"testing"

	"chainmail/api"
	"chainmail/plain"
)

// is checks that an error is that one, without a place.
func is(t *testing.T, what string, err error, want api.Errno) {
	t.Helper()
	if e, bare := plain.Bare(err); e != want || !bare {
		t.Errorf("%s: error %v, want %v", what, err, want)
	}
}

// count checks a number that was told.
func count(t *testing.T, what string, got, want int) {
	t.Helper()
	if got != want {
		t.Errorf("%s: %d, want %d", what, got, want)
	}
}

// house is one that must be.
func house(t *testing.T, shards, nodes int) *House {
	t.Helper()
	h, err := New(shards, nodes)
	is(t, "New", err, api.OK)
	return h
}

// begin begins a transaction that must be.
func begin(t *testing.T, h *House) int {
	t.Helper()
	id, err := h.Begin()
	is(t, "Begin", err, api.OK)
	state(t, h, id, Open)
	return id
}

// state checks a transaction's state.
func state(t *testing.T, h *House, id, want int) {
	t.Helper()
	if got := h.State(id); got != want {
		t.Errorf("State of %d: %d, want %d", id, got, want)
	}
}

// gets checks that a transaction finds that value.
func gets(t *testing.T, h *House, id int, key, want string) {
	t.Helper()
	got, ok, err := h.Get(id, key)
	is(t, "Get", err, api.OK)
	if !ok || got != want {
		t.Errorf("Get of %q by %d: %q %v, want %q", key, id, got, ok, want)
	}
}

// lacks checks that a transaction finds no value.
func lacks(t *testing.T, h *House, id int, key string) {
	t.Helper()
	got, ok, err := h.Get(id, key)
	is(t, "Get", err, api.OK)
	if ok || got != "" {
		t.Errorf("Get of %q by %d: %q %v, want none", key, id, got, ok)
	}
}

// refuses checks that a Get, and a Put, tell that error.
func refuses(t *testing.T, h *House, id int, key string, want api.Errno) {
	t.Helper()
	refusesGet(t, h, id, key, want)
	is(t, "Put", h.Put(id, api.Pair{Key: key, Value: "refused"}), want)
}

func refusesGet(t *testing.T, h *House, id int, key string, want api.Errno) {
	t.Helper()
	got, ok, err := h.Get(id, key)
	is(t, "Get", err, want)
	if ok || got != "" {
		t.Errorf("Get of %q by %d: %q %v beside an error", key, id, got, ok)
	}
}

// puts has a transaction put a value that must be taken; takes has it take one away.
func puts(t *testing.T, h *House, id int, key, value string) {
	t.Helper()
	is(t, "Put", h.Put(id, api.Pair{Key: key, Value: value}), api.OK)
}

func takes(t *testing.T, h *House, id int, key string) {
	t.Helper()
	is(t, "Put", h.Put(id, api.Pair{Key: key, Gone: true}), api.OK)
}

// ends has a transaction end.
func ends(t *testing.T, h *House, id int) {
	t.Helper()
	is(t, "End", h.End(id), api.OK)
}

// commits has a transaction end and be Committed.
func commits(t *testing.T, h *House, id int) {
	t.Helper()
	ends(t, h, id)
	h.Calm()
	state(t, h, id, Committed)
}

// fails has nodes fail.
func fails(t *testing.T, h *House, ids ...int) {
	t.Helper()
	for _, id := range ids {
		is(t, "Fail", h.Fail(id), api.OK)
	}
}

// keyAt is a key at a shard, one of several.
func keyAt(t *testing.T, h *House, shard, which int) string {
	t.Helper()
	for c := byte('a'); c <= 'z'; c++ {
		key := string([]byte{c})
		if h.Shard(key) != shard {
			continue
		}
		if which == 0 {
			return key
		}
		which--
	}
	t.Fatalf("no key at shard %d", shard)
	return ""
}

// numbers are none of transactions, of nodes, of shards, whatever there is.
func numbers() []int {
	return []int{-1, -10, 5000, api.MaxNumber, math.MinInt, math.MaxInt}
}

// 7.1: ErrRange, unless shards and nodes are from 1 to 4.
func TestNew(t *testing.T) {
	sizes := append(numbers(), 0, 1, 2, 3, 4, 5)
	for _, shards := range sizes {
		for _, nodes := range sizes {
			h, err := New(shards, nodes)
			if shards >= 1 && shards <= 4 && nodes >= 1 && nodes <= 4 {
				is(t, "New", err, api.OK)
				continue
			}
			is(t, "New", err, api.ErrRange)
			if h != nil {
				t.Errorf("New(%d, %d) tells a house beside an error", shards, nodes)
			}
		}
	}
}

// 7.1: so many shards, and one of decisions, of so many nodes each, of the numbers 10 s, 10 s + 1, ..
func TestNodes(t *testing.T) {
	for shards := 1; shards <= 4; shards++ {
		for nodes := 1; nodes <= 4; nodes++ {
			h := house(t, shards, nodes)
			for id := -1; id < 100; id++ {
				want := api.OK
				if id < 0 || id/10 > shards || id%10 >= nodes {
					want = api.ErrMissing
				}
				is(t, "Fail", h.Fail(id), want)
			}
		}
	}
}

// 7.1: the head has the least number.
func TestHeadIsFirst(t *testing.T) {
	h := house(t, 2, 3)
	id := begin(t, h)
	a, b := keyAt(t, h, 0, 0), keyAt(t, h, 1, 0)
	fails(t, h, 1, 2, 11, 12)
	lacks(t, h, id, a)
	lacks(t, h, id, b)
	fails(t, h, 10)
	lacks(t, h, id, a)
	refuses(t, h, id, b, api.ErrFull)
	fails(t, h, 0)
	refuses(t, h, id, a, api.ErrFull)
}

// 7.1: a key is at the shard that is the sum of its bytes modulo how many there are.
func TestShard(t *testing.T) {
	for shards := 1; shards <= 4; shards++ {
		h := house(t, shards, 1)
		for _, c := range []struct {
			key string
			sum int
		}{{"", 0}, {"a", 97}, {"b", 98}, {"ab", 195}, {"ba", 195}, {"\x00", 0}, {"\xff", 255}, {"\xff\xff\x01", 511}, {"ä", 195 + 164}, {strings.Repeat("\xff", 30_001), 255 * 30_001}} {
			count(t, "Shard of "+c.key, h.Shard(c.key), c.sum%shards)
		}
	}
}

// 7.1: a key's commands are in the logs of its shard alone.
func TestKeysAreAtTheirShards(t *testing.T) {
	h := house(t, 4, 2)
	for k := range 4 {
		id := begin(t, h)
		puts(t, h, id, keyAt(t, h, k, 0), "x")
		commits(t, h, id)
		for other := range 4 {
			logs, err := h.Logs(other)
			is(t, "Logs", err, api.OK)
			count(t, "how many logs", len(logs), 2)
			want := 0
			if other <= k {
				want = 2
			}
			count(t, "how many commands", len(logs[0]), want)
		}
	}
}

// 7.2: Begin tells numbers from 1 on; ErrLimit, if there were MaxTxs, also if they are done.
func TestBegin(t *testing.T) {
	h := house(t, 1, 1)
	state(t, h, 1, 0)
	for id := 1; id <= api.MaxTxs; id++ {
		count(t, "Begin", begin(t, h), id)
		state(t, h, id+1, 0)
		switch id % 3 {
		case 0:
			is(t, "Drop", h.Drop(id), api.OK)
		case 1:
			commits(t, h, id)
		}
	}
	for range 3 {
		id, err := h.Begin()
		is(t, "Begin", err, api.ErrLimit)
		count(t, "Begin's number", id, 0)
		state(t, h, api.MaxTxs+1, 0)
	}
	state(t, h, api.MaxTxs, Aborted)
	state(t, h, api.MaxTxs-1, Open)
}

// 7.2: a number that is none: State 0, all else ErrMissing.
func TestNoTransaction(t *testing.T) {
	h := house(t, 2, 2)
	begin(t, h)
	for _, id := range append(numbers(), 0, 2) {
		state(t, h, id, 0)
		refuses(t, h, id, "a", api.ErrMissing)
		refuses(t, h, id, strings.Repeat("a", api.MaxKey+1), api.ErrMissing)
		is(t, "End", h.End(id), api.ErrMissing)
		is(t, "Drop", h.Drop(id), api.ErrMissing)
	}
	fails(t, h, 0, 10)
	refuses(t, h, 2, "a", api.ErrMissing)
	state(t, h, 1, Open)
}

// closed checks that one that is not Open is refused, whatever else is wrong.
func closed(t *testing.T, h *House, id int) {
	t.Helper()
	was := h.State(id)
	refuses(t, h, id, "a", api.ErrState)
	refuses(t, h, id, strings.Repeat("a", api.MaxKey+1), api.ErrState)
	is(t, "End", h.End(id), api.ErrState)
	is(t, "Drop", h.Drop(id), api.ErrState)
	state(t, h, id, was)
}

// 7.2: one that is not Open: ErrState.
func TestNotOpen(t *testing.T) {
	h := house(t, 2, 2)
	ending, dropped := begin(t, h), begin(t, h)
	puts(t, h, ending, "a", "x")
	ends(t, h, ending)
	state(t, h, ending, Ending)
	closed(t, h, ending)
	is(t, "Drop", h.Drop(dropped), api.OK)
	state(t, h, dropped, Aborted)
	closed(t, h, dropped)
	h.Calm()
	state(t, h, ending, Committed)
	closed(t, h, ending)
	fails(t, h, 0, 10)
	closed(t, h, ending)
	closed(t, h, dropped)
}

// 7.2: Get tells what was committed last, and none ahead of that.
func TestGet(t *testing.T) {
	for nodes := 1; nodes <= 4; nodes++ {
		h := house(t, 2, nodes)
		for _, key := range []string{"a", "b", "", "\x00\xff"} {
			first := begin(t, h)
			lacks(t, h, first, key)
			puts(t, h, first, key, "x"+key)
			commits(t, h, first)

			second := begin(t, h)
			gets(t, h, second, key, "x"+key)
			puts(t, h, second, key, "")
			commits(t, h, second)

			third := begin(t, h)
			gets(t, h, third, key, "")
			takes(t, h, third, key)
			commits(t, h, third)

			fourth := begin(t, h)
			lacks(t, h, fourth, key)
			puts(t, h, fourth, key, "again")
			commits(t, h, fourth)
			gets(t, h, begin(t, h), key, "again")
		}
	}
}

// 7.2: Get tells what the transaction itself put, or took away; nobody else is told that.
func TestGetOwn(t *testing.T) {
	h := house(t, 2, 2)
	first := begin(t, h)
	puts(t, h, first, "a", "old")
	commits(t, h, first)

	id := begin(t, h)
	gets(t, h, id, "a", "old")
	puts(t, h, id, "a", "new")
	gets(t, h, id, "a", "new")
	takes(t, h, id, "a")
	lacks(t, h, id, "a")
	puts(t, h, id, "a", "newer")
	puts(t, h, id, "b", "other")
	gets(t, h, id, "a", "newer")
	gets(t, h, id, "b", "other")
	is(t, "Put", h.Put(id, api.Pair{Key: "b", Value: "unseen", Gone: true}), api.OK)
	lacks(t, h, id, "b")
	is(t, "Drop", h.Drop(id), api.OK)

	id = begin(t, h)
	gets(t, h, id, "a", "old")
	lacks(t, h, id, "b")
	takes(t, h, id, "a")
	puts(t, h, id, "b", "x")
	puts(t, h, id, "b", "y")
	commits(t, h, id)

	id = begin(t, h)
	lacks(t, h, id, "a")
	gets(t, h, id, "b", "y")
}

// 7.2: a key of MaxKey bytes is taken, one more is ErrLimit; so is it ahead of a head that is dead, and behind a number that is none.
func TestLongKey(t *testing.T) {
	h := house(t, 1, 2)
	id := begin(t, h)
	key := strings.Repeat("k", api.MaxKey)
	lacks(t, h, id, key)
	puts(t, h, id, key, "x")
	gets(t, h, id, key, "x")
	refuses(t, h, id, key+"k", api.ErrLimit)
	refuses(t, h, id, strings.Repeat("k", 100_000), api.ErrLimit)
	fails(t, h, 0)
	refuses(t, h, id, key+"k", api.ErrLimit)
	refuses(t, h, id, key, api.ErrFull)
	state(t, h, id, Open)
}

// 7.2: a Value of MaxValue bytes is taken, one more is ErrLimit, ahead of all else.
func TestLongValue(t *testing.T) {
	h := house(t, 1, 2)
	id, other := begin(t, h), begin(t, h)
	value := strings.Repeat("v", api.MaxValue)
	puts(t, h, id, "a", value)
	gets(t, h, id, "a", value)
	long := api.Pair{Key: "a", Value: value + "v"}
	is(t, "Put", h.Put(id, long), api.ErrLimit)
	gets(t, h, id, "a", value)
	for _, none := range append(numbers(), 0, 3) {
		is(t, "Put", h.Put(none, long), api.ErrLimit)
	}
	long.Key = "b"
	is(t, "Put", h.Put(id, long), api.ErrLimit)
	puts(t, h, other, "b", "it was not locked")
	long.Gone = true
	is(t, "Put", h.Put(id, long), api.ErrLimit)
	state(t, h, other, Open)
	is(t, "Drop", h.Drop(id), api.OK)
	is(t, "Put", h.Put(id, long), api.ErrLimit)
	fails(t, h, 0)
	is(t, "Put", h.Put(other, long), api.ErrLimit)
}

// 7.2: 20 keys may be written, each as often as one likes; one more is ErrLimit, and nothing is changed.
func TestManyKeys(t *testing.T) {
	h := house(t, 2, 2)
	elder, id := begin(t, h), begin(t, h)
	for i := range 20 {
		puts(t, h, id, string(rune('a'+i)), "x")
		takes(t, h, id, string(rune('a'+i)))
		puts(t, h, id, string(rune('a'+i)), "y")
	}
	for range 2 {
		is(t, "Put", h.Put(id, api.Pair{Key: "u", Value: "x"}), api.ErrLimit)
		is(t, "Put", h.Put(id, api.Pair{Key: "v", Gone: true}), api.ErrLimit)
	}
	lacks(t, h, id, "u")
	puts(t, h, id, "a", "z")
	takes(t, h, id, "t")
	younger := begin(t, h)
	puts(t, h, younger, "v", "it was not locked")
	is(t, "Put", h.Put(id, api.Pair{Key: "v", Value: "x"}), api.ErrLimit)
	state(t, h, younger, Open)

	// An elder one is in the way: that is told first.
	puts(t, h, elder, "w", "x")
	is(t, "Put", h.Put(id, api.Pair{Key: "w", Value: "x"}), api.ErrCycle)
	is(t, "Put", h.Put(id, api.Pair{Key: "w", Value: "x"}), api.ErrCycle)
	is(t, "Drop", h.Drop(elder), api.OK)
	is(t, "Put", h.Put(id, api.Pair{Key: "w", Value: "x"}), api.ErrLimit)
	commits(t, h, id)
	is(t, "Drop", h.Drop(younger), api.OK)

	id = begin(t, h)
	gets(t, h, id, "a", "z")
	gets(t, h, id, "b", "y")
	lacks(t, h, id, "t")
	for _, key := range []string{"u", "v", "w"} {
		lacks(t, h, id, key)
	}
}

// 7.2: of one that wrote 20 keys, and must wait for another one, that is told first, whoever is in its way.
func TestManyKeysAndWaits(t *testing.T) {
	h := house(t, 1, 2)
	elder, id := begin(t, h), begin(t, h)
	for i := range 20 {
		puts(t, h, id, string(rune('a'+i)), "x")
	}
	younger := begin(t, h)
	lacks(t, h, elder, "u")
	lacks(t, h, younger, "v")
	lacks(t, h, younger, "w")
	ends(t, h, younger)
	is(t, "Put", h.Put(id, api.Pair{Key: "u"}), api.ErrCycle)
	is(t, "Put", h.Put(id, api.Pair{Key: "v"}), api.ErrCycle)
	is(t, "End", h.End(id), api.ErrCycle)
	is(t, "Drop", h.Drop(elder), api.OK)
	is(t, "Put", h.Put(id, api.Pair{Key: "u"}), api.ErrLimit)
	h.Calm()
	state(t, h, younger, Committed)
	is(t, "Put", h.Put(id, api.Pair{Key: "v"}), api.ErrLimit)
	commits(t, h, id)
}

// 7.2, P2: a Put that is refused for its many keys came to no shard: another configuration there is nothing to it.
func TestManyKeysComeNowhere(t *testing.T) {
	h := house(t, 2, 2)
	id := begin(t, h)
	for i := range 20 {
		puts(t, h, id, strings.Repeat("\x02", i), "x") // all at shard 0
	}
	is(t, "Put", h.Put(id, api.Pair{Key: "a"}), api.ErrLimit)
	fails(t, h, 10)
	h.Fix()
	state(t, h, id, Open)
	commits(t, h, id)
}

// 7.2: Drop: it is Aborted, and nothing is left of it.
func TestDrop(t *testing.T) {
	h := house(t, 2, 2)
	id := begin(t, h)
	puts(t, h, id, "a", "x")
	puts(t, h, id, "b", "x")
	is(t, "Drop", h.Drop(id), api.OK)
	state(t, h, id, Aborted)
	h.Calm()
	state(t, h, id, Aborted)
	for k := range 3 {
		logs, _ := h.Logs(k)
		for _, log := range logs {
			count(t, "how many commands", len(log), 0)
		}
	}
	other := begin(t, h)
	lacks(t, h, other, "a")
	puts(t, h, other, "b", "y")
	commits(t, h, other)
}
