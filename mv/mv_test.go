package mv

import (
	"math"
	"slices"
	"strings"
	"testing"

	"chainmail/api"
	"chainmail/plain"
)

// is checks that an error is that one, without a place.
func is(t *testing.T, what string, err error, want api.Errno) {
	t.Helper()
	if e, bare := plain.Bare(err); e != want || !bare {
		t.Errorf("%s: error %v, want %v", what, err, want)
	}
}

// count checks a number that was told.
func count(t *testing.T, what string, got, want int) {
	t.Helper()
	if got != want {
		t.Errorf("%s: %d, want %d", what, got, want)
	}
}

// set puts a value that must be taken.
func set(t *testing.T, s *Store, time int, key, value string) {
	t.Helper()
	is(t, "Put "+key, s.Put(time, api.Pair{Key: key, Value: value}), api.OK)
}

// drop puts that a key is gone, which must be taken.
func drop(t *testing.T, s *Store, time int, key string) {
	t.Helper()
	is(t, "Put of "+key+" that is gone", s.Put(time, api.Pair{Key: key, Gone: true}), api.OK)
}

// trim trims to a time that must be taken.
func trim(t *testing.T, s *Store, to int) {
	t.Helper()
	is(t, "Trim", s.Trim(to), api.OK)
	count(t, "Low", s.Low(), to)
}

// has checks that a key has a value at a time.
func has(t *testing.T, s *Store, key string, at int, want string) {
	t.Helper()
	value, ok, err := s.Get(key, at)
	if value != want || !ok || err != nil {
		t.Errorf("Get %q at %d: %q %v %v, want %q", key, at, value, ok, err, want)
	}
}

// not checks that a key has no value at a time, and that the error is that one.
func not(t *testing.T, s *Store, key string, at int, want api.Errno) {
	t.Helper()
	value, ok, err := s.Get(key, at)
	if value != "" || ok {
		t.Errorf("Get %q at %d: %q %v, want nothing", key, at, value, ok)
	}
	is(t, "Get "+key, err, want)
}

// all checks what At tells of a time: keys, each with its value behind it.
func all(t *testing.T, s *Store, at int, want ...string) {
	t.Helper()
	l, err := s.At(at)
	is(t, "At", err, api.OK)
	var got []string
	for _, p := range l {
		if p.Gone {
			t.Errorf("At %d tells %q, which is gone", at, p.Key)
		}
		got = append(got, p.Key, p.Value)
	}
	if !slices.Equal(got, want) {
		t.Errorf("At %d: %q, want %q", at, got, want)
	}
}

// unasked checks that a time can't be asked.
func unasked(t *testing.T, s *Store, key string, at int) {
	t.Helper()
	not(t, s, key, at, api.ErrNone)
	l, err := s.At(at)
	is(t, "At", err, api.ErrNone)
	count(t, "what At tells beside an error", len(l), 0)
}

// 3.1: a Store's zero value has no version of any key, and Low 0.
func TestZeroValue(t *testing.T) {
	var s Store
	count(t, "Low", s.Low(), 0)
	count(t, "Many", s.Many(), 0)
	for _, at := range []int{0, 1, api.MaxNumber, api.MaxNumber + 1, math.MaxInt} {
		not(t, &s, "a", at, api.OK)
		not(t, &s, "", at, api.OK)
		all(t, &s, at)
	}
	for _, at := range []int{-1, -api.MaxNumber, math.MinInt} {
		unasked(t, &s, "a", at)
	}
}

// 3.1: a key is a version's value from its time on, to its next one.
func TestFromTimeOnToTheNext(t *testing.T) {
	var s Store
	set(t, &s, 3, "a", "x")
	not(t, &s, "a", 2, api.OK)
	has(t, &s, "a", 3, "x")
	has(t, &s, "a", 4, "x")
	has(t, &s, "a", math.MaxInt, "x")
	not(t, &s, "b", 4, api.OK)

	set(t, &s, 7, "a", "y")
	has(t, &s, "a", 6, "x")
	has(t, &s, "a", 7, "y")
	has(t, &s, "a", 8, "y")
	count(t, "Many", s.Many(), 2)
}

// 3.1: versions may come in any order.
func TestAnyOrder(t *testing.T) {
	for _, times := range [][]int{{1, 3, 5}, {1, 5, 3}, {3, 1, 5}, {3, 5, 1}, {5, 1, 3}, {5, 3, 1}} {
		var s Store
		for _, time := range times {
			set(t, &s, time, "a", strings.Repeat("v", time))
		}
		count(t, "Many", s.Many(), 3)
		not(t, &s, "a", 0, api.OK)
		for at, many := range []int{1: 1, 2: 1, 3: 3, 4: 3, 5: 5, 6: 5} {
			if at > 0 {
				has(t, &s, "a", at, strings.Repeat("v", many))
			}
		}
	}
}

// 3.1: a version that is Gone is nothing, from its time on, to the next one.
func TestGone(t *testing.T) {
	var s Store
	set(t, &s, 2, "a", "x")
	drop(t, &s, 4, "a")
	set(t, &s, 6, "a", "y")
	has(t, &s, "a", 3, "x")
	not(t, &s, "a", 4, api.OK)
	not(t, &s, "a", 5, api.OK)
	has(t, &s, "a", 6, "y")
	count(t, "Many", s.Many(), 3)

	is(t, "Put", s.Put(9, api.Pair{Key: "a", Value: "not told", Gone: true}), api.OK)
	not(t, &s, "a", 9, api.OK)
	all(t, &s, 9)
	all(t, &s, 8, "a", "y")
}

// 3.1: a value that is empty is a value, and so is a key.
func TestEmptyTexts(t *testing.T) {
	var s Store
	set(t, &s, 1, "a", "")
	set(t, &s, 2, "", "x")
	set(t, &s, 3, "", "")
	has(t, &s, "a", 1, "")
	not(t, &s, "", 1, api.OK)
	has(t, &s, "", 2, "x")
	has(t, &s, "", 3, "")
	all(t, &s, 1, "a", "")
	all(t, &s, 2, "", "x", "a", "")
	all(t, &s, 3, "", "", "a", "")
}

// 3.1: Put: ErrRange, unless the time is from 0 to MaxNumber.
func TestPutTime(t *testing.T) {
	var s Store
	for _, time := range []int{-1, math.MinInt, api.MaxNumber + 1, math.MaxInt} {
		is(t, "Put", s.Put(time, api.Pair{Key: "a", Value: "x"}), api.ErrRange)
	}
	count(t, "Many", s.Many(), 0)
	all(t, &s, math.MaxInt)
	set(t, &s, 0, "a", "x")
	set(t, &s, api.MaxNumber, "a", "y")
	has(t, &s, "a", 0, "x")
	has(t, &s, "a", api.MaxNumber-1, "x")
	has(t, &s, "a", api.MaxNumber, "y")
	has(t, &s, "a", api.MaxNumber+1, "y")
	unasked(t, &s, "a", -1)
}

// 3.1: Put: ErrLimit, if Key has more than MaxKey bytes, or Value more than MaxValue: bytes, not runes; also if it is Gone.
func TestPutLengths(t *testing.T) {
	key, value := strings.Repeat("k", api.MaxKey), strings.Repeat("v", api.MaxValue)
	runes := "\u00e4"
	for _, p := range []api.Pair{
		{Key: key + "k", Value: "x"},
		{Key: "a", Value: value + "v"},
		{Key: key + "k", Value: value + "v"},
		{Key: key + "k", Gone: true},
		{Key: "a", Value: value + "v", Gone: true},
		{Key: strings.Repeat(runes, api.MaxKey)},
		{Key: "a", Value: strings.Repeat(runes, api.MaxValue)},
	} {
		var s Store
		is(t, "Put "+p.Key, s.Put(1, p), api.ErrLimit)
		count(t, "Many", s.Many(), 0)
		not(t, &s, p.Key, 1, api.OK)
	}
	var s Store
	set(t, &s, 1, key, value)
	has(t, &s, key, 1, value)
	is(t, "Put", s.Put(2, api.Pair{Key: key, Value: value, Gone: true}), api.OK)
	not(t, &s, key, 2, api.OK)
	not(t, &s, key+"k", 2, api.OK)
	not(t, &s, strings.Repeat("k", 1000), 2, api.OK)
}

// 3.1: Put: ErrTwice, if the key has a version of that time; what is there stays.
func TestPutTwice(t *testing.T) {
	var s Store
	set(t, &s, 3, "a", "x")
	drop(t, &s, 5, "a")
	set(t, &s, 7, "a", "z")
	for _, time := range []int{3, 5, 7} {
		is(t, "Put", s.Put(time, api.Pair{Key: "a", Value: "other"}), api.ErrTwice)
		is(t, "Put", s.Put(time, api.Pair{Key: "a", Gone: true}), api.ErrTwice)
	}
	is(t, "Put", s.Put(3, api.Pair{Key: "a", Value: "x"}), api.ErrTwice)
	count(t, "Many", s.Many(), 3)
	has(t, &s, "a", 3, "x")
	not(t, &s, "a", 5, api.OK)
	has(t, &s, "a", 7, "z")
	set(t, &s, 3, "b", "of another key")
	count(t, "Many", s.Many(), 4)
}

// 3.1: Put: ErrNone, if the time is below Low.
func TestPutBelowLow(t *testing.T) {
	var s Store
	trim(t, &s, 5)
	for _, time := range []int{0, 4} {
		is(t, "Put", s.Put(time, api.Pair{Key: "a", Value: "x"}), api.ErrNone)
	}
	count(t, "Many", s.Many(), 0)
	set(t, &s, 5, "a", "x")
	set(t, &s, 6, "a", "y")
	has(t, &s, "a", 5, "x")
	unasked(t, &s, "a", 4)
}

// 3.1, P3: of several things that are wrong with Put the one told first is answered.
func TestPutSeveralWrong(t *testing.T) {
	long := strings.Repeat("k", api.MaxValue+1)
	var s Store
	set(t, &s, 3, "a", "x")
	set(t, &s, 8, "a", "y")
	trim(t, &s, 5)
	for _, c := range []struct {
		what string
		time int
		p    api.Pair
		want api.Errno
	}{
		{"below 0, long", -1, api.Pair{Key: long, Value: long}, api.ErrRange},
		{"above MaxNumber, long", api.MaxNumber + 1, api.Pair{Key: long}, api.ErrRange},
		{"below 0, below Low", -1, api.Pair{Key: "a"}, api.ErrRange},
		{"long key, below Low", 4, api.Pair{Key: long}, api.ErrLimit},
		{"long value, below Low, there", 3, api.Pair{Key: "a", Value: long}, api.ErrLimit},
		{"long value, there", 8, api.Pair{Key: "a", Value: long}, api.ErrLimit},
		{"below Low, there", 3, api.Pair{Key: "a"}, api.ErrNone},
		{"there", 8, api.Pair{Key: "a"}, api.ErrTwice},
	} {
		is(t, c.what, s.Put(c.time, c.p), c.want)
		count(t, c.what+": Many", s.Many(), 2)
		count(t, c.what+": Low", s.Low(), 5)
	}
	has(t, &s, "a", 5, "x")
	has(t, &s, "a", 8, "y")
}

// 3.1: At: all keys of which Get tells true, by their bytes, rising.
func TestAt(t *testing.T) {
	var s Store
	keys := []string{"b", "\xff", "a", "", "ab", "B", "\x00", "a\x00", "\u00e4", "10", "9"}
	for i, key := range keys {
		set(t, &s, i%3, key, "of "+key)
	}
	drop(t, &s, 2, "ab")
	set(t, &s, 4, "c", "x")
	drop(t, &s, 5, "a")
	all(t, &s, 0, "", "of ", "\x00", "of \x00", "10", "of 10", "b", "of b")
	var want []string
	for _, key := range []string{"", "\x00", "10", "9", "B", "a", "a\x00", "b", "c", "\u00e4", "\xff"} {
		want = append(want, key, "of "+key)
	}
	want[slices.Index(want, "of c")] = "x"
	all(t, &s, 4, want...)
	gone := slices.Index(want, "of a")
	all(t, &s, math.MaxInt, slices.Delete(slices.Clone(want), gone-1, gone+1)...)
}
