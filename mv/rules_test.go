package mv

import (
	"slices"
	"strconv"
	"testing"

	"chainmail/api"
)

// die has numbers that look drawn, the same each time.
type die uint64

func (d *die) below(most int) int {
	*d = *d*6364136223846793005 + 1442695040888963407
	return int(uint64(*d>>33) % uint64(most))
}

// entry is a version as it was put.
type entry struct {
	time int
	p    api.Pair
}

// slow is a Store by the document's words alone: versions in one list, gone through from end to end.
type slow struct {
	low int
	l   []entry
}

// last is a key's last version by a time.
func (s *slow) last(key string, at int) (entry, bool) {
	best, found := entry{}, false
	for _, e := range s.l {
		if e.p.Key == key && e.time <= at && (!found || e.time > best.time) {
			best, found = e, true
		}
	}
	return best, found
}

func (s *slow) put(time int, p api.Pair) api.Errno {
	if time < s.low {
		return api.ErrNone
	}
	if e, ok := s.last(p.Key, time); ok && e.time == time {
		return api.ErrTwice
	}
	s.l = append(s.l, entry{time, p})
	return api.OK
}

func (s *slow) trim(to int) api.Errno {
	if to < s.low {
		return api.ErrOrder
	}
	s.low = to
	var kept []entry
	for _, e := range s.l {
		last, _ := s.last(e.p.Key, to)
		if e.time > to || e.time == last.time && !e.p.Gone {
			kept = append(kept, e)
		}
	}
	s.l = kept
	return api.OK
}

// at is what is there at a time, of keys that are rising.
func (s *slow) at(keys []string, at int) []api.Pair {
	var l []api.Pair
	for _, key := range keys {
		if e, ok := s.last(key, at); ok && !e.p.Gone {
			l = append(l, e.p)
		}
	}
	return l
}

// 3.1, 3.2: whatever is put and trimmed, a Store tells what one does that goes through all it was given.
func TestAsTheSlowOneTells(t *testing.T) {
	keys := []string{"", "a", "b", "c"}
	for round := range 60 {
		d := die(round)
		var s Store
		var w slow
		for step := range 60 {
			time, what := d.below(40), "round "+strconv.Itoa(round)+", step "+strconv.Itoa(step)
			if d.below(8) == 0 {
				is(t, what, s.Trim(time/2), w.trim(time/2))
			} else {
				p := api.Pair{Key: keys[d.below(4)], Value: strconv.Itoa(step)}
				if d.below(3) == 0 {
					p.Value, p.Gone = "", true
				}
				is(t, what, s.Put(time, p), w.put(time, p))
			}
			count(t, what, s.Low(), w.low)
			count(t, what, s.Many(), len(w.l))
			for at := w.low; at < 42; at++ {
				if l, err := s.At(at); err != nil || !slices.Equal(l, w.at(keys, at)) {
					t.Fatalf("%s: At %d: %v %v, want %v", what, at, l, err, w.at(keys, at))
				}
			}
		}
	}
}

// view is all that can be asked of times from one on: what At and Get tell.
func view(t *testing.T, s *Store, from, to int) []api.Pair {
	t.Helper()
	var l []api.Pair
	for at := from; at <= to; at++ {
		now, err := s.At(at)
		is(t, "At", err, api.OK)
		l = append(l, api.Pair{Key: "at", Value: strconv.Itoa(at)})
		l = append(l, now...)
		for _, p := range now {
			has(t, s, p.Key, at, p.Value)
		}
	}
	return l
}

// 'What is to be true of the whole', 1: what is forgotten is not asked, and else nothing changes.
func TestForgettingChangesNothingElse(t *testing.T) {
	for round := range 40 {
		d := die(1000 + round)
		var s Store
		for range 50 {
			s.Put(d.below(30), api.Pair{Key: string(rune('a' + d.below(5))), Value: strconv.Itoa(d.below(90)), Gone: d.below(3) == 0})
		}
		for to := 0; to < 32; to += 1 + d.below(4) {
			before, many := view(t, &s, to, 32), s.Many()
			trim(t, &s, to)
			if !slices.Equal(view(t, &s, to, 32), before) {
				t.Errorf("round %d: Trim to %d changed what is told", round, to)
			}
			if s.Many() > many {
				t.Errorf("round %d: Trim to %d has %d versions of %d", round, to, s.Many(), many)
			}
			if to > 0 {
				unasked(t, &s, "a", to-1)
			}
		}
		trim(t, &s, 32)
		last, _ := s.At(32)
		count(t, "versions that are left", s.Many(), len(last))
	}
}

// P4: what At tells is the caller's, and stays.
func TestAnswersAreFresh(t *testing.T) {
	var s Store
	set(t, &s, 1, "a", "x")
	set(t, &s, 1, "b", "y")
	first, _ := s.At(1)
	second, _ := s.At(1)
	clear(first[:cap(first)])
	all(t, &s, 1, "a", "x", "b", "y")
	set(t, &s, 0, "c", "z")
	drop(t, &s, 2, "a")
	trim(t, &s, 2)
	if !slices.Equal(second, []api.Pair{{Key: "a", Value: "x"}, {Key: "b", Value: "y"}}) {
		t.Errorf("what At told became %v", second)
	}
}

// P1: two Stores have nothing to do with each other.
func TestStoresAreApart(t *testing.T) {
	var s, other Store
	set(t, &s, 1, "a", "x")
	trim(t, &s, 3)
	count(t, "Low of the other one", other.Low(), 0)
	count(t, "Many of the other one", other.Many(), 0)
	not(t, &other, "a", 1, api.OK)
	set(t, &other, 1, "a", "y")
	has(t, &s, "a", 3, "x")
}

// P4: keys are told in their order, however they lie in the Store.
func TestOrderStays(t *testing.T) {
	var s Store
	var want []string
	for i := range 200 {
		k := i * 77 % 200
		set(t, &s, 1, "k"+strconv.Itoa(100+k), "v")
		want = append(want, "k"+strconv.Itoa(100+i), "v")
	}
	for range 5 {
		all(t, &s, 1, want...)
	}
}
