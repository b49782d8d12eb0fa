package locks

import (
	"slices"
	"strconv"
	"strings"
	"testing"

	"chainmail/api"
)

// die has numbers that look drawn, the same each time.
type die uint64

func (d *die) below(most int) int {
	*d = *d*6364136223846793005 + 1442695040888963407
	return int(uint64(*d>>33) % uint64(most))
}

// entry is a transaction that holds a key, or waits for it.
type entry struct {
	tx    int
	name  string
	mode  int
	waits bool
}

// slow is a Table by the document's words alone: one list, gone through from end to end.
type slow struct{ l []entry }

// some is the entries of which that holds.
func (s *slow) some(which func(entry) bool) []entry {
	var l []entry
	for _, e := range s.l {
		if which(e) {
			l = append(l, e)
		}
	}
	return l
}

// drop takes away the entries of which that holds.
func (s *slow) drop(which func(entry) bool) {
	s.l = s.some(func(e entry) bool { return !which(e) })
}

// at is those that hold a key, or those that wait for it, the elder ones first.
func (s *slow) at(name string, waits bool) []entry {
	l := s.some(func(e entry) bool { return e.name == name && e.waits == waits })
	slices.SortFunc(l, func(a, b entry) int { return a.tx - b.tx })
	return l
}

// holds is how a transaction holds a key.
func (s *slow) holds(tx int, name string) int {
	for _, e := range s.at(name, false) {
		if e.tx == tx {
			return e.mode
		}
	}
	return None
}

// blocks says whether one is another one's reason to wait for a key.
func blocks(o, e entry) bool {
	way := o.name == e.name && o.tx != e.tx && (o.mode == Writes || e.mode == Writes)
	return way && (!o.waits || o.tx < e.tx)
}

// blocked is the reasons for which one that wants a key does not have it.
func (s *slow) blocked(e entry) []entry {
	return s.some(func(o entry) bool { return blocks(o, e) })
}

// give has one hold a key.
func (s *slow) give(e entry) {
	s.drop(func(o entry) bool { return o.tx == e.tx && o.name == e.name })
	e.waits = false
	s.l = append(s.l, e)
}

func (s *slow) lock(tx int, name string, mode int) (bool, []int, api.Errno) {
	e := entry{tx, name, mode, true}
	queue := s.at(name, true)
	switch {
	case mode < Reads || mode > Writes:
		return false, nil, api.ErrArg
	case len(name) > api.MaxKey:
		return false, nil, api.ErrLimit
	case slices.ContainsFunc(queue, func(o entry) bool { return o.tx == tx }):
		return false, nil, api.ErrTwice
	case s.holds(tx, name) >= mode:
		return true, nil, api.OK
	case len(s.blocked(e)) == 0:
		s.give(e)
		return true, nil, api.OK
	case len(queue) >= 50:
		return false, nil, api.ErrLimit
	}
	s.l = append(s.l, e)
	var wounded []int
	for _, o := range s.at(name, false) {
		if o.tx > tx && blocks(o, e) {
			wounded = append(wounded, o.tx)
		}
	}
	return false, wounded, api.OK
}

func (s *slow) release(tx int) []Grant {
	s.drop(func(e entry) bool { return e.tx == tx })
	var l []Grant
	for _, name := range s.keys() {
		for _, e := range s.at(name, true) {
			if len(s.blocked(e)) == 0 {
				s.give(e)
				l = append(l, Grant{e.tx, name, e.mode})
			}
		}
	}
	return l
}

func (s *slow) keys() []string {
	var l []string
	for _, e := range s.l {
		l = append(l, e.name)
	}
	slices.Sort(l)
	return slices.Compact(l)
}

// view is what the view of a Table would be.
func (s *slow) view() string {
	var b strings.Builder
	for _, name := range s.keys() {
		b.WriteString(strconv.Quote(name) + ":")
		for _, e := range s.at(name, false) {
			b.WriteString(" " + strconv.Itoa(e.tx) + "/" + strconv.Itoa(e.mode))
		}
		for _, e := range s.at(name, true) {
			b.WriteString(" waits " + strconv.Itoa(e.tx))
		}
		b.WriteString("\n")
	}
	return b.String()
}

// both asks a Table and a slow one for a key: they must tell the same.
func both(t *testing.T, what string, b *Table, w *slow, tx int, name string, mode int) (bool, []int) {
	t.Helper()
	ok, wounded, err := b.Lock(tx, name, mode)
	wok, wwounded, werr := w.lock(tx, name, mode)
	is(t, what+", "+ask(tx, name, mode), err, werr)
	if ok != wok || !slices.Equal(wounded, wwounded) {
		t.Errorf("%s, %s: %v %v, want %v %v", what, ask(tx, name, mode), ok, wounded, wok, wwounded)
	}
	return ok, wounded
}

// bothRelease has a Table and a slow one release a transaction: they must tell the same.
func bothRelease(t *testing.T, what string, b *Table, w *slow, tx int) {
	t.Helper()
	if got, want := b.Release(tx), w.release(tx); !slices.Equal(got, want) {
		t.Errorf("%s, Release %d: %v, want %v", what, tx, got, want)
	}
}

// 5.1, 5.2: whatever is asked, a Table tells what one does that goes through all it was given.
func TestAsTheSlowOneTells(t *testing.T) {
	names := []string{"", "a", "b", "\xff", strings.Repeat("k", api.MaxKey), strings.Repeat("k", api.MaxKey+1)}
	for round := range 120 {
		d := die(round)
		var b Table
		var w slow
		txs, some := 3+d.below(12), 1+d.below(len(names))
		for step := range 120 {
			what := "round " + strconv.Itoa(round) + ", step " + strconv.Itoa(step)
			if tx := d.below(txs) - 1; d.below(5) == 0 {
				bothRelease(t, what, &b, &w, tx)
			} else {
				both(t, what, &b, &w, tx, names[d.below(some)], 1+d.below(2)-d.below(30)/29*2)
			}
			if got, want := view(&b), w.view(); got != want {
				t.Fatalf("%s: it is\n%s want\n%s", what, got, want)
			}
		}
	}
}

// 5.1, 5.2: the same of a key for which many wait.
func TestAsTheSlowOneTellsOfACrowd(t *testing.T) {
	d := die(7)
	var b Table
	var w slow
	full := 0
	for step := range 1500 {
		what := "step " + strconv.Itoa(step)
		if d.below(12) == 0 {
			bothRelease(t, what, &b, &w, d.below(120))
		} else {
			both(t, what, &b, &w, d.below(120), "a", 1+d.below(4)/3)
		}
		if len(b.Waits("a")) == 50 {
			full++
		}
		if got, want := view(&b), w.view(); got != want {
			t.Fatalf("%s: it is\n%s want\n%s", what, got, want)
		}
	}
	if full == 0 {
		t.Error("50 never waited")
	}
}

// nobodyInTheWay checks what is to be true whatever is asked: those that hold a key are not in each other's way, and who waits has a reason.
func nobodyInTheWay(t *testing.T, what string, w *slow) {
	t.Helper()
	for _, e := range w.l {
		why := w.blocked(e)
		if e.waits && len(why) == 0 {
			t.Errorf("%s: %v waits for nobody", what, e)
		}
		for _, o := range why {
			if !e.waits && !o.waits {
				t.Errorf("%s: %v and %v are in each other's way", what, e, o)
			}
		}
	}
}

// told is a Table, and of each that waits whom it wounded when it began to.
type told struct {
	Table
	wounded map[entry][]int
}

// now is what a Table tells of keys and transactions, as entries. What one that waits wants is what it asked for last.
func (b *told) now(wants map[entry]int, txs int) *slow {
	var w slow
	for _, name := range b.Keys() {
		for tx := range txs {
			if mode := b.Holds(tx, name); mode != None {
				w.l = append(w.l, entry{tx, name, mode, false})
			}
		}
		for _, tx := range b.Waits(name) {
			w.l = append(w.l, entry{tx, name, wants[entry{tx: tx, name: name}], true})
		}
	}
	return &w
}

// 'What is to be true of the whole', 3: nobody is in the way; and who waits for a younger one that holds the key has wounded it.
func TestNobodyIsInTheWay(t *testing.T) {
	for round := range 80 {
		d := die(2000 + round)
		b := told{wounded: map[entry][]int{}}
		wants := map[entry]int{}
		for step := range 100 {
			what := "round " + strconv.Itoa(round) + ", step " + strconv.Itoa(step)
			tx, name, mode := d.below(8), string(rune('a'+d.below(3))), 1+d.below(2)
			if d.below(5) == 0 {
				b.Release(tx)
			} else if ok, l, err := b.Lock(tx, name, mode); !ok && err == nil {
				wants[entry{tx: tx, name: name}], b.wounded[entry{tx: tx, name: name}] = mode, l
			}
			w := b.now(wants, 8)
			nobodyInTheWay(t, what, w)
			for _, e := range w.l {
				for _, o := range w.blocked(e) {
					if e.waits && o.tx > e.tx && !slices.Contains(b.wounded[entry{tx: e.tx, name: e.name}], o.tx) {
						t.Errorf("%s: %v waits for %v, which it did not wound", what, e, o)
					}
				}
			}
		}
	}
}

// 'What is to be true of the whole', 3: when those that are wounded are released, nobody waits for one that is younger: so no two wait for each other, and the eldest one has any key at once.
func TestNobodyWaitsForAYoungerOne(t *testing.T) {
	for round := range 80 {
		d := die(3000 + round)
		b := told{}
		wants := map[entry]int{}
		for step := range 100 {
			what := "round " + strconv.Itoa(round) + ", step " + strconv.Itoa(step)
			tx, name, mode := d.below(8), string(rune('a'+d.below(3))), 1+d.below(2)
			if d.below(6) == 0 {
				b.Release(tx)
				continue
			}
			ok, l, err := b.Lock(tx, name, mode)
			if !ok && err == nil {
				wants[entry{tx: tx, name: name}] = mode
			}
			for _, younger := range l {
				b.Release(younger)
			}
			w := b.now(wants, 8)
			nobodyInTheWay(t, what, w)
			for _, e := range w.l {
				for _, o := range w.blocked(e) {
					if e.waits && o.tx > e.tx {
						t.Errorf("%s: %v waits for %v", what, e, o)
					}
				}
			}
			if tx == 0 && b.Holds(0, name) < mode {
				t.Errorf("%s: the eldest one waits for %q", what, name)
			}
		}
	}
}

// P4: what comes out is the caller's: what is written into it changes nothing, and it stays as it was told.
func TestAnswersAreFresh(t *testing.T) {
	var b Table
	for _, tx := range []int{5, 6, 7} {
		has(t, &b, tx, "a", Reads)
		has(t, &b, tx, "b", Reads)
	}
	_, wounded, _ := b.Lock(3, "a", Writes)
	_, others, _ := b.Lock(2, "b", Writes)
	_, more, _ := b.Lock(2, "a", Writes)
	first, second := b.Waits("a"), b.Waits("a")
	names, again := b.Keys(), b.Keys()
	before := view(&b)
	clear(wounded[:cap(wounded)])
	clear(first[:cap(first)])
	clear(names[:cap(names)])
	if got := view(&b); got != before {
		t.Errorf("it was\n%s and is\n%s", before, got)
	}
	released(t, &b, 5)
	released(t, &b, 6)
	grants := b.Release(7)
	clear(grants[:cap(grants)])
	released(t, &b, 2, Grant{3, "a", Writes})
	if !slices.Equal(others, []int{5, 6, 7}) || !slices.Equal(more, []int{5, 6, 7}) || !slices.Equal(second, []int{2, 3}) || !slices.Equal(again, []string{"a", "b"}) {
		t.Errorf("what was told became %v %v %v %q", others, more, second, again)
	}
}

// P1: two Tables have nothing to do with each other.
func TestTablesAreApart(t *testing.T) {
	var b, other Table
	has(t, &b, 5, "a", Writes)
	waits(t, &b, 3, "a", Writes, 5)
	keys(t, &other)
	has(t, &other, 7, "a", Writes)
	released(t, &other, 5)
	holds(t, &b, 5, "a", Writes)
	released(t, &b, 5, Grant{3, "a", Writes})
	holds(t, &other, 7, "a", Writes)
}
