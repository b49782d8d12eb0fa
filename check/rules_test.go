package check

import (
	"math"
	"slices"
	"strconv"
	"testing"

	"chainmail/api"
)

// die has numbers that look drawn, the same each time.
type die uint64

func (d *die) below(most int) int {
	*d = *d*6364136223846793005 + 1442695040888963407
	return int(uint64(*d>>33) % uint64(most))
}

// orders goes on with all lists of numbers below many, each once, that begin so, whether they are orders or not.
func orders(begins []int, many int, tell func([]int)) {
	tell(begins)
	for n := range many {
		if !slices.Contains(begins, n) {
			orders(append(slices.Clone(begins), n), many, tell)
		}
	}
}

// isOrder says by 6.1's words whether numbers are an order.
func isOrder(l []Tx, order []int) bool {
	for n, t := range l {
		at := slices.Index(order, n)
		if t.To >= 0 && at < 0 {
			return false
		}
		for m, o := range l {
			other := slices.Index(order, m)
			both := at >= 0 && other >= 0 && n != m
			if both && t.To >= 0 && t.To < o.From && at > other {
				return false
			}
		}
	}
	return true
}

// fitting says by 6.1's words whether an order fits: what a Get finds is what the last Put or Del of its key did, all Ops set one behind the other.
func fitting(l []Tx, order []int) bool {
	var all []Op
	for _, n := range order {
		for _, o := range l[n].Ops {
			if o.Kind == Get && !found(all, o) {
				return false
			}
			all = append(all, o)
		}
	}
	return true
}

// found says whether a Get behind other Ops is so.
func found(behind []Op, o Op) bool {
	for _, b := range slices.Backward(behind) {
		switch {
		case b.Key == o.Key && b.Kind == Put:
			return o.Found && o.Value == b.Value
		case b.Key == o.Key && b.Kind == Del:
			return !o.Found
		}
	}
	return !o.Found
}

// slow is the least of all orders that fit.
func slow(l []Tx) (least []int, ok bool) {
	orders(nil, len(l), func(order []int) {
		if isOrder(l, order) && fitting(l, order) && (!ok || slices.Compare(order, least) < 0) {
			least, ok = order, true
		}
	})
	return least, ok
}

// against holds Serial against the slow one.
func against(t *testing.T, l []Tx) bool {
	t.Helper()
	want, wanted := slow(l)
	got, ok, err := Serial(l)
	is(t, "Serial", err, api.OK)
	if ok != wanted || !slices.Equal(got, want) {
		t.Fatalf("%+v: %v %v, want %v %v", l, got, ok, want, wanted)
	}
	return ok
}

// wild is a history of few keys, values and times, in which a Get may tell anything.
func (d *die) wild(most int) []Tx {
	l := make([]Tx, d.below(most+1))
	for n := range l {
		l[n].From, l[n].To = d.below(8)-2, d.below(10)-2
		for range d.below(4) {
			l[n].Ops = append(l[n].Ops, Op{
				Kind:  []int{Get, Get, Put, Put, Del, 0, 4}[d.below(7)],
				Key:   []string{"a", "b"}[d.below(2)],
				Value: []string{"x", "y", ""}[d.below(3)],
				Found: d.below(2) == 0,
			})
		}
	}
	return l
}

// made is a history that transactions made, one behind the other: each has its place between From and To; some were never told, of which some did nothing, whatever they wrote down. It tells the order, too.
func (d *die) made(many int) ([]Tx, []int) {
	l, order := make([]Tx, many), up(many)
	for n := range order { // shuffled
		m := n + d.below(many-n)
		order[n], order[m] = order[m], order[n]
	}
	now := map[string]Op{}
	var there []int
	for place, n := range order {
		l[n] = Tx{From: 10*place - d.below(25), To: 10*place + d.below(25)}
		if d.below(4) == 0 {
			l[n].To = -1 - d.below(3)
		}
		if l[n].To < 0 && d.below(2) == 0 {
			l[n].Ops = d.ops(map[string]Op{"a": {Value: "lost", Found: true}})
			continue
		}
		l[n].Ops = d.ops(now)
		there = append(there, n)
	}
	return l, there
}

// ops does some operations, as a transaction does them.
func (d *die) ops(now map[string]Op) []Op {
	var l []Op
	for range d.below(6) {
		o := Op{Kind: 1 + d.below(3), Key: []string{"a", "b", "c"}[d.below(3)]}
		switch o.Kind {
		case Get:
			o.Value, o.Found = now[o.Key].Value, now[o.Key].Found
		case Put:
			o.Value = strconv.Itoa(d.below(4))
			now[o.Key] = Op{Value: o.Value, Found: true}
		case Del:
			delete(now, o.Key)
		}
		l = append(l, o)
	}
	return l
}

// 6.1, 6.2: Serial tells what the document's words do, of histories with all that may be in them.
func TestAgainstSlow(t *testing.T) {
	d := die(1)
	told := [2]int{}
	for range 6000 {
		if against(t, d.wild(5)) {
			told[1]++
		} else {
			told[0]++
		}
	}
	if told[0] < 500 || told[1] < 500 {
		t.Errorf("%d histories were refused, %d not: too few", told[0], told[1])
	}
	for range 3 {
		l, _ := d.made(8)
		against(t, l)
	}
	for range 300 {
		l, _ := d.made(5)
		n := d.below(5)
		if ops := l[n].Ops; len(ops) > 0 { // one of them tells something else
			ops[d.below(len(ops))] = get("a", strconv.Itoa(d.below(5)))
		}
		against(t, l)
	}
}

// What is to be true, 4: an order that was made so is never refused, and what is told fits, and is not greater.
func TestMadeSo(t *testing.T) {
	d := die(2)
	for range 3000 {
		l, order := d.made(1 + d.below(8))
		if !isOrder(l, order) || !fitting(l, order) {
			t.Fatalf("%+v: %v was not made well", l, order)
		}
		got, ok, err := Serial(l)
		is(t, "Serial", err, api.OK)
		if !ok || !isOrder(l, got) || !fitting(l, got) || slices.Compare(got, order) > 0 {
			t.Fatalf("%+v: %v %v, and %v fits", l, got, ok, order)
		}
	}
}

// P1: the greatest histories end, also if what does not fit is a last Op, so that nearly all orders are gone through.
func TestGreatestEnds(t *testing.T) {
	var l []Tx
	for n := range 8 {
		var ops []Op
		for m := range 38 {
			ops = append(ops, put(strconv.Itoa(n)+"/"+strconv.Itoa(m), "x"))
		}
		l = append(l, beside(append(ops, put("last", strconv.Itoa(n)), none("never"))...))
	}
	fits(t, "8 of 40", l, up(8)...)
	l[0].Ops = append(l[0].Ops[:39:39], get("never", "x"))
	refused(t, "8 of 40 of which one cannot be", l)
	for n := range l {
		l[n].Ops = append(l[n].Ops[:39:39], none("7/0"))
	}
	l[7].Ops = append(l[7].Ops[:39:39], get("7/1", "x"))
	l[6].Ops = append(l[6].Ops[:39:39], get("7/0", "x"))
	fits(t, "6 is behind 7, all others ahead", l, 0, 1, 2, 3, 4, 5, 7, 6)
	l[5].Ops[38] = get("6/0", "x")
	refused(t, "5 is behind 6, and ahead of 7", l)
}

// P1, P2: whatever numbers there are.
func TestAnyNumbers(t *testing.T) {
	d := die(3)
	far := []int{math.MinInt, math.MinInt + 1, -1, 0, 1, math.MaxInt - 1, math.MaxInt}
	for range 2000 {
		l := d.wild(4)
		for n := range l {
			l[n].From, l[n].To = far[d.below(len(far))], far[d.below(len(far))]
		}
		against(t, l)
	}
}

// P4: nothing that is handed in is written into, also behind its length; what is told is fresh, and the same each time.
func TestFresh(t *testing.T) {
	ops := []Op{put("a", "x"), get("a", "x"), put("b", "y")}
	room := []Tx{{Ops: ops[:2], From: 0, To: 9}, beside(get("a", "x"), del("a")), beside(none("a"))}
	wantOps := slices.Clone(ops)
	wantOther := slices.Clone(room[1].Ops)
	fits(t, "two of three", room[:2], 0, 1)
	if !slices.Equal(ops, wantOps) || !slices.Equal(room[1].Ops, wantOther) || len(room[0].Ops) != 2 || room[0].To != 9 || room[1].To != math.MaxInt {
		t.Errorf("Serial changed %+v, behind it %+v", room, ops)
	}
	first, _, _ := Serial(room)
	want := slices.Clone(first)
	again, _, _ := Serial(room)
	for n := range first {
		first[n] = -1
	}
	if !slices.Equal(again, want) {
		t.Errorf("another answer became %v, want %v", again, want)
	}
	room[0].Ops[0].Value = "z"
	if !slices.Equal(again, want) {
		t.Errorf("what was told became %v, want %v", again, want)
	}
}
