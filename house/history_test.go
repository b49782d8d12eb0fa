package house

import (
	"strconv"
	"testing"

	"chainmail/api"
	"chainmail/check"
	"chainmail/plain"
)

// die has numbers that look drawn, the same each time.
type die uint64

func (d *die) below(most int) int {
	*d = *d*6364136223846793005 + 1442695040888963407
	return int(uint64(*d>>33) % uint64(most))
}

// mostAtOnce is how many transactions of a history are not Aborted: chapter 6 takes 8, one of which reads all at the end.
const mostAtOnce = 7

// world is a house to which anything may happen, and what its transactions were told.
type world struct {
	t     *testing.T
	d     die
	h     *House
	nodes int
	now   int         // steps so far
	keys  []string    // of which transactions speak
	txs   []check.Tx  // what each was told, number 1 first
	was   []int       // the state of each, ahead of this step
	fate  map[int]int // of transactions: the kind of command that decides it, as some log has had it
	seen  map[string]int
}

// create is a world of a house of some size.
func create(t *testing.T, seed int, seen map[string]int) *world {
	w := &world{t: t, d: die(seed), nodes: 1 + seed/4%4, fate: map[int]int{}, seen: seen}
	shards := 1 + seed%4
	w.h = house(t, shards, w.nodes)
	for k := range shards {
		w.keys = append(w.keys, keyAt(t, w.h, k, 0))
	}
	w.keys = append(w.keys, keyAt(t, w.h, 0, 1))
	return w
}

// pick is one of the transactions, or nearly one; the later ones more often.
func (w *world) pick() int {
	return len(w.txs) + 1 - min(w.d.below(len(w.txs)+2), w.d.below(len(w.txs)+2))
}

func (w *world) key() string { return w.keys[w.d.below(len(w.keys))] }

// begin begins a transaction, if there are not too many for one history.
func (w *world) begin() {
	many := 0
	for _, s := range w.was {
		if s != Aborted {
			many++
		}
	}
	if many >= mostAtOnce || len(w.txs) >= api.MaxTxs {
		return
	}
	count(w.t, "Begin", begin(w.t, w.h), len(w.txs)+1)
	w.txs = append(w.txs, check.Tx{From: w.now, To: -1})
	w.was = append(w.was, Open)
}

// note keeps what a transaction was told.
func (w *world) note(id int, err error, o check.Op) {
	switch api.Tell(err) {
	case api.OK:
		w.txs[id-1].Ops = append(w.txs[id-1].Ops, o)
	case api.ErrCycle:
		w.seen["one waits"]++
	case api.ErrFull:
		w.seen["a head is dead"]++
	}
}

// busy says whether a transaction's history is as long as chapter 6 takes it.
func (w *world) busy(id int) bool { return id >= 1 && id <= len(w.txs) && len(w.txs[id-1].Ops) >= 40 }

func (w *world) get(id int, key string) error {
	value, ok, err := w.h.Get(id, key)
	w.note(id, err, check.Op{Kind: check.Get, Key: key, Value: value, Found: ok})
	return err
}

// put puts a value that nobody else puts, or takes it away.
func (w *world) put(id int, key string) error {
	p := api.Pair{Key: key, Value: "v" + strconv.Itoa(w.now)}
	o := check.Op{Kind: check.Put, Key: key, Value: p.Value}
	if w.d.below(4) == 0 {
		p.Gone, o.Kind = true, check.Del
	}
	err := w.h.Put(id, p)
	w.note(id, err, o)
	return err
}

// fail has a node fail; of a chain the last one only if whole chains may.
func (w *world) fail(whole bool) {
	k := w.d.below(len(w.h.lines))
	id := 10*k + w.d.below(w.nodes)
	living, _ := w.h.Logs(k)
	if len(living) < 2 && !whole {
		return
	}
	if api.Tell(w.h.Fail(id)) != api.OK {
		return
	}
	place := "one in the middle"
	switch id % 10 {
	case 0:
		place = "a head"
	case w.nodes - 1:
		place = "a tail"
	}
	if k == len(w.h.lines)-1 {
		place += " of decisions"
	}
	for _, s := range w.was {
		if s == Ending {
			w.seen[place+" fails while one is Ending"]++
			break
		}
	}
}

// message has something happen to a message, if one is under way.
func (w *world) message(what int) {
	if w.h.Many() == 0 {
		return
	}
	k := w.d.below(w.h.Many())
	if w.d.below(2) == 0 {
		k = 0
	}
	switch {
	case what < 3:
		is(w.t, "Lose", w.h.Lose(k), api.OK)
	case what < 6:
		w.h.Twice(k)
	default:
		is(w.t, "Deliver", w.h.Deliver(k), api.OK)
	}
}

// step does something.
func (w *world) step(whole bool) {
	w.now++
	id, key, k := w.pick(), w.key(), w.d.below(100)
	switch {
	case k < 10:
		w.begin()
	case k < 26:
		if !w.busy(id) {
			w.get(id, key)
		}
	case k < 42:
		if !w.busy(id) {
			w.put(id, key)
		}
	case k < 52:
		w.h.End(id)
	case k < 53:
		w.h.Drop(id)
	case k < 93:
		w.message(w.d.below(32))
	case k < 95:
		w.h.Tick()
	case k < 97:
		w.fail(whole)
	case k < 99:
		w.h.Fix()
	default:
		w.h.Calm()
	}
}

// look checks that states went on as they may, and keeps when transactions were told that they are Committed.
func (w *world) look() {
	for i := range w.txs {
		was, now := w.was[i], w.h.State(i+1)
		switch {
		case was == now:
		case was == Open && now == Aborted:
			w.seen["one Open is Aborted"]++
		case now == Ending && was == Open:
		case now == Committed && (was == Ending || was == Open):
			w.txs[i].To = w.now
			w.seen["one is Committed"]++
		case now == Aborted && was == Ending:
			w.seen["one Ending is Aborted"]++
		default:
			w.t.Fatalf("%d was %d and is %d", i+1, was, now)
		}
		w.was[i] = now
	}
}

// logs checks all logs.
func (w *world) logs() {
	last := len(w.h.lines) - 1
	decisions, _ := w.h.Logs(last)
	for k := range last + 1 {
		l, _ := w.h.Logs(k)
		for i, log := range l {
			if i > 0 && !plain.Begins(l[i-1], log) {
				w.t.Fatalf("chain %d: %v is no beginning of %v", k, log, l[i-1])
			}
			w.log(log, k == last, decisions)
		}
	}
	for i, s := range w.was {
		for _, log := range decisions {
			if s == Committed && !has(log, api.Commit, i+1) {
				w.t.Fatalf("%d is Committed, and %v has no Commit of it", i+1, log)
			}
		}
		if s == Aborted && w.fate[i+1] == api.Commit {
			w.t.Fatalf("%d is Aborted, and had a Commit", i+1)
		}
	}
}

// log checks one log: of decisions, or of a shard.
func (w *world) log(log []api.Cmd, decides bool, decisions [][]api.Cmd) {
	for i, c := range log {
		if c.Kind == api.Commit || c.Kind == api.Abort {
			if w.fate[c.Tx] == 0 {
				w.fate[c.Tx] = c.Kind
			}
			count(w.t, "what decides a transaction", c.Kind, w.fate[c.Tx])
		}
		if has(log[:i], c.Kind, c.Tx) {
			w.t.Fatalf("%v is there twice: %v", c, log)
		}
		switch {
		case decides && c.Kind != api.Commit, c.Kind == api.Write:
			w.t.Fatalf("%v in %v", c, log)
		case (c.Kind == api.Commit) != (c.Time > 0), c.Kind != api.Prepare && len(c.Writes) > 0:
			w.t.Fatalf("%v in %v", c, log)
		case c.Kind == api.Commit && !decides:
			w.told(log[:i], c, decisions)
		}
	}
}

// told checks that what a shard is told to commit was decided everywhere, at that time, and is prepared.
func (w *world) told(ahead []api.Cmd, c api.Cmd, decisions [][]api.Cmd) {
	if !has(ahead, api.Prepare, c.Tx) || has(ahead, api.Abort, c.Tx) {
		w.t.Fatalf("%v stands behind %v", c, ahead)
	}
	for _, log := range decisions {
		if n := place(log, api.Commit, c.Tx); n < 0 || log[n].Time != c.Time {
			w.t.Fatalf("a shard has %v, decisions are %v", c, log)
		}
	}
}

// fits checks that what transactions that are Committed, or Ending, were told fits an order.
func (w *world) fits() {
	var l []check.Tx
	for i, s := range w.was {
		if s == Committed || s == Ending {
			l = append(l, w.txs[i])
		}
	}
	_, ok, err := check.Serial(l)
	is(w.t, "Serial", err, api.OK)
	if !ok {
		w.t.Fatalf("no order fits %v", l)
	}
}

// heal checks what holds behind Fix and Calm, while each chain has a node that lives.
func (w *world) heal() {
	w.now++
	w.h.Fix()
	w.h.Calm()
	w.look()
	w.logs()
	count(w.t, "Many", w.h.Many(), 0)
	if !w.h.Alive() {
		w.seen["a whole chain is dead"]++
		return
	}
	for i, s := range w.was {
		if s == Ending {
			w.t.Fatalf("%d is Ending", i+1)
		}
	}
	for k := range w.h.lines {
		l, _ := w.h.Logs(k)
		for _, log := range l {
			if !plain.Log(log, l[0]) {
				w.t.Fatalf("the head has %v, another one %v", l[0], log)
			}
			w.whole(log)
		}
	}
}

// whole checks that all that is prepared in a log is decided there.
func (w *world) whole(log []api.Cmd) {
	for _, c := range log {
		if c.Kind == api.Prepare && w.h.State(c.Tx) == Committed != has(log, api.Commit, c.Tx) {
			w.t.Fatalf("%d is in state %d, a log is %v", c.Tx, w.h.State(c.Tx), log)
		}
		if c.Kind == api.Prepare && w.h.State(c.Tx) == Aborted != has(log, api.Abort, c.Tx) {
			w.t.Fatalf("%d is in state %d, a log is %v", c.Tx, w.h.State(c.Tx), log)
		}
	}
}

// eldest checks that the eldest one that is Open gets any key at once, and ends it.
func (w *world) eldest() {
	for i, s := range w.was {
		if s != Open || w.busy(i+1) {
			continue
		}
		for _, key := range w.keys {
			if len(w.txs[i].Ops) < 30 {
				is(w.t, "Get of the eldest one", w.get(i+1, key), api.OK)
				is(w.t, "Put of the eldest one", w.put(i+1, key), api.OK)
			}
		}
		ends(w.t, w.h, i+1)
		w.h.Calm()
		w.look()
		state(w.t, w.h, i+1, Committed)
		w.seen["the eldest one gets any key"]++
		return
	}
}

// read has one transaction more read all keys, when all others are done.
func (w *world) read() {
	for i := range w.txs {
		w.h.Drop(i + 1)
	}
	w.look()
	w.now++
	id := begin(w.t, w.h)
	w.txs = append(w.txs, check.Tx{From: w.now, To: -1})
	w.was = append(w.was, Open)
	for _, key := range w.keys {
		is(w.t, "Get at the end", w.get(id, key), api.OK)
	}
	commits(w.t, w.h, id)
	w.look()
}

// 7.4: whatever is done, message by message, whichever nodes fail: what was told fits an order, all or nothing, what is committed lasts, and nobody waits for ever.
func TestHistories(t *testing.T) {
	seen := map[string]int{}
	for seed := range 640 {
		w := create(t, seed, seen)
		whole := seed%5 == 0
		for n := range 240 {
			w.step(whole)
			w.look()
			w.logs()
			if n%60 == 0 {
				w.fits()
			}
		}
		w.fits()
		w.heal()
		w.fits()
		if w.h.Alive() {
			w.eldest()
			w.read()
			w.fits()
		}
	}
	for _, what := range []string{
		"one waits", "one is Committed", "one Open is Aborted", "one Ending is Aborted", "a head is dead", "a whole chain is dead", "the eldest one gets any key",
		"a head fails while one is Ending", "one in the middle fails while one is Ending", "a tail fails while one is Ending",
		"a head of decisions fails while one is Ending", "one in the middle of decisions fails while one is Ending", "a tail of decisions fails while one is Ending",
	} {
		if seen[what] < 10 {
			t.Errorf("%s: just %d times", what, seen[what])
		}
	}
	t.Log(seen)
}
