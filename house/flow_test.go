package house

import (
	"slices"
	"testing"

	"chainmail/api"
	"chainmail/plain"
)

// logs are those of a shard.
func logs(t *testing.T, h *House, k int) [][]api.Cmd {
	t.Helper()
	l, err := h.Logs(k)
	is(t, "Logs", err, api.OK)
	return l
}

// logged checks that so many nodes of a shard live, and that all have just that log.
func logged(t *testing.T, h *House, k, nodes int, want ...api.Cmd) {
	t.Helper()
	l := logs(t, h, k)
	count(t, "how many nodes live", len(l), nodes)
	for i, log := range l {
		if !plain.Log(log, want) {
			t.Errorf("log %d of shard %d: %v, want %v", i, k, log, want)
		}
	}
}

// has says whether a log has a transaction's command of that kind.
func has(log []api.Cmd, kind, tx int) bool {
	return slices.ContainsFunc(log, func(c api.Cmd) bool { return c.Kind == kind && c.Tx == tx })
}

// prepared, decided and dropped are commands of logs.
func prepared(tx int, writes ...api.Pair) api.Cmd {
	return api.Cmd{Kind: api.Prepare, Tx: tx, Writes: writes}
}

func decided(tx, time int) api.Cmd { return api.Cmd{Kind: api.Commit, Tx: tx, Time: time} }

func dropped(tx int) api.Cmd { return api.Cmd{Kind: api.Abort, Tx: tx} }

// pair is a key that is put.
func pair(key, value string) api.Pair { return api.Pair{Key: key, Value: value} }

// quiet brings all messages, the first one first, without a Tick.
func quiet(t *testing.T, h *House) {
	t.Helper()
	for h.Many() > 0 {
		is(t, "Deliver", h.Deliver(0), api.OK)
	}
}

// loseAll loses all messages, the last one first.
func loseAll(t *testing.T, h *House) {
	t.Helper()
	for h.Many() > 0 {
		is(t, "Lose", h.Lose(h.Many()-1), api.OK)
	}
}

// calmHouse is one with nothing under way.
func calmHouse(t *testing.T, shards, nodes int) *House {
	t.Helper()
	h := house(t, shards, nodes)
	h.Calm()
	count(t, "Many", h.Many(), 0)
	return h
}

// wroteBoth has a transaction that put a key at shards 0 and 1.
func wroteBoth(t *testing.T, h *House) (id int, a, b string) {
	t.Helper()
	id, a, b = begin(t, h), keyAt(t, h, 0, 0), keyAt(t, h, 1, 0)
	puts(t, h, id, a, "x")
	puts(t, h, id, b, "y")
	return id, a, b
}

// 7.3: what logs have of a transaction of several shards that is Committed; a shard at which it wrote nothing has that, too.
func TestLogsOfOneCommitted(t *testing.T) {
	for nodes := 1; nodes <= 4; nodes++ {
		h := house(t, 4, nodes)
		id := begin(t, h)
		puts(t, h, id, "\x00", "x")
		puts(t, h, id, "\x01", "y")
		puts(t, h, id, "\x05", "z")
		takes(t, h, id, "\x04")
		puts(t, h, id, "\x01", "yy")
		lacks(t, h, id, "\x02")
		commits(t, h, id)
		time := logs(t, h, 4)[0][0].Time
		if time < 1 {
			t.Errorf("Commit at the Time %d", time)
		}
		logged(t, h, 0, nodes, prepared(id, pair("\x00", "x"), api.Pair{Key: "\x04", Gone: true}), decided(id, time))
		logged(t, h, 1, nodes, prepared(id, pair("\x01", "yy"), pair("\x05", "z")), decided(id, time))
		logged(t, h, 2, nodes, prepared(id), decided(id, time))
		logged(t, h, 3, nodes)
		logged(t, h, 4, nodes, decided(id, time))
	}
}

// 7.3: Times of Commits rise in the chain of decisions.
func TestTimesRise(t *testing.T) {
	h := house(t, 2, 2)
	for range 5 {
		wroteBothAndEnds(t, h)
	}
	time := 0
	for _, c := range logs(t, h, 2)[0] {
		if c.Kind != api.Commit || c.Time <= time {
			t.Errorf("%v behind the Time %d", c, time)
		}
		time = c.Time
	}
	count(t, "how many decisions", len(logs(t, h, 2)[1]), 5)
}

func wroteBothAndEnds(t *testing.T, h *House) {
	t.Helper()
	id, _, _ := wroteBoth(t, h)
	commits(t, h, id)
}

// 7.3: Logs: ErrRange, unless k is a shard, or that of decisions.
func TestLogsOfNoShard(t *testing.T) {
	h := house(t, 2, 3)
	for k := range 3 {
		logged(t, h, k, 3)
	}
	for _, k := range append(numbers(), 3) {
		l, err := h.Logs(k)
		is(t, "Logs", err, api.ErrRange)
		count(t, "how many logs", len(l), 0)
	}
}

// 7.3: one that came to no shard is decided, too.
func TestEndOfOneThatCameNowhere(t *testing.T) {
	h := calmHouse(t, 2, 3)
	id := begin(t, h)
	ends(t, h, id)
	state(t, h, id, Ending)
	quiet(t, h)
	state(t, h, id, Committed)
	for k := range 2 {
		logged(t, h, k, 3)
	}
	logged(t, h, 2, 3, decided(id, logs(t, h, 2)[0][0].Time))
}

// 7.3: with chains of one node no message is to come.
func TestAlone(t *testing.T) {
	h := house(t, 2, 1)
	count(t, "Many", h.Many(), 0)
	id, a, _ := wroteBoth(t, h)
	ends(t, h, id)
	state(t, h, id, Committed)
	count(t, "Many", h.Many(), 0)
	gets(t, h, begin(t, h), a, "x")
}

// committedSoundly checks that a transaction that is Committed has all that this takes.
func committedSoundly(t *testing.T, h *House, id int, shards ...int) {
	t.Helper()
	if h.State(id) != Committed {
		return
	}
	for _, k := range shards {
		for _, log := range logs(t, h, k) {
			if !has(log, api.Prepare, id) {
				t.Errorf("%d is Committed, and a node of shard %d has no Prepare of it", id, k)
			}
		}
	}
	for _, log := range logs(t, h, h.decisions()) {
		if !has(log, api.Commit, id) {
			t.Errorf("%d is Committed, and a node of decisions has no Commit of it", id)
		}
	}
}

// 7.3: message by message: Committed, when all is there, not ahead; its locks are let go just then.
func TestMessageByMessage(t *testing.T) {
	for nodes := 2; nodes <= 4; nodes++ {
		h := calmHouse(t, 3, nodes)
		id, a, b := wroteBoth(t, h)
		other := begin(t, h)
		ends(t, h, id)
		taken := 0
		for h.Many() > 0 {
			if h.State(id) == Ending {
				refusesGet(t, h, other, a, api.ErrCycle)
				taken++
			}
			is(t, "Deliver", h.Deliver(h.Many()-1), api.OK)
			committedSoundly(t, h, id, 0, 1)
		}
		state(t, h, id, Committed)
		if least := 3 * (nodes - 1); taken < least {
			t.Errorf("Committed behind %d messages, want at least %d", taken, least)
		}
		gets(t, h, other, a, "x")
		gets(t, h, other, b, "y")
		logged(t, h, 2, nodes)
	}
}

// 7.3: without its messages it stays Ending; behind Tick, or Calm, it goes on.
func TestMessagesLost(t *testing.T) {
	for nodes := 2; nodes <= 4; nodes++ {
		h := calmHouse(t, 2, nodes)
		id, a, _ := wroteBoth(t, h)
		ends(t, h, id)
		loseAll(t, h)
		state(t, h, id, Ending)
		for k := range 2 {
			l := logs(t, h, k)
			count(t, "commands of the head", len(l[0]), 1)
			count(t, "commands of the next one", len(l[1]), 0)
		}
		for range 20 { // each round brings it on by one message that each node tells at most
			h.Tick()
			n := h.Many()
			for range n {
				is(t, "Deliver", h.Deliver(0), api.OK)
			}
			committedSoundly(t, h, id, 0, 1)
		}
		state(t, h, id, Committed)

		other := begin(t, h)
		puts(t, h, other, a, "z")
		ends(t, h, other)
		loseAll(t, h)
		h.Calm()
		state(t, h, other, Committed)
		count(t, "Many", h.Many(), 0)
	}
}

// 7.3: messages that come twice, and in another order, do no harm.
func TestMessagesTwiceAndLate(t *testing.T) {
	h := calmHouse(t, 2, 3)
	for round := range 5 {
		id, a, b := wroteBoth(t, h)
		ends(t, h, id)
		d := die(round)
		for range 200 {
			if h.Many() == 0 {
				h.Tick()
			}
			k := d.below(h.Many())
			if d.below(3) > 0 {
				is(t, "Twice", h.Twice(k), api.OK)
			}
			is(t, "Deliver", h.Deliver(k), api.OK)
		}
		h.Calm()
		state(t, h, id, Committed)
		for k := range 2 {
			count(t, "commands", len(logs(t, h, k)[2]), 2*(round+1))
		}
		count(t, "decisions", len(logs(t, h, 2)[2]), round+1)
		reader := begin(t, h)
		gets(t, h, reader, a, "x")
		gets(t, h, reader, b, "y")
		is(t, "Drop", h.Drop(reader), api.OK)
	}
}

// 7.3: Deliver, Lose, Twice: ErrRange of what is not under way.
func TestNoMessage(t *testing.T) {
	h := calmHouse(t, 1, 2)
	for _, many := range []int{0, 4, 8} {
		count(t, "Many", h.Many(), many)
		for _, k := range append(numbers(), h.Many()) {
			is(t, "Deliver", h.Deliver(k), api.ErrRange)
			is(t, "Lose", h.Lose(k), api.ErrRange)
			is(t, "Twice", h.Twice(k), api.ErrRange)
			count(t, "Many", h.Many(), many)
		}
		h.Tick()
	}
}

// 7.3: Many, Lose, Twice count; MaxFlight are under way at most.
func TestFlight(t *testing.T) {
	h := calmHouse(t, 1, 2)
	h.Tick()
	for want := 5; want <= api.MaxFlight; want++ {
		is(t, "Twice", h.Twice(want%4), api.OK)
		count(t, "Many", h.Many(), want)
	}
	is(t, "Twice", h.Twice(0), api.ErrLimit)
	is(t, "Twice", h.Twice(api.MaxFlight), api.ErrRange)
	count(t, "Many", h.Many(), api.MaxFlight)
	is(t, "Lose", h.Lose(api.MaxFlight-1), api.OK)
	count(t, "Many", h.Many(), api.MaxFlight-1)
	is(t, "Twice", h.Twice(0), api.OK)
	h.Tick()
	count(t, "Many", h.Many(), api.MaxFlight)
	h.Calm()
	count(t, "Many", h.Many(), 0)
}

// stuff has as many messages under way as there may be, none of which is of any use.
func stuff(t *testing.T, h *House) {
	t.Helper()
	for k := 0; k < h.Many(); {
		if m := h.way.All()[k]; m.Kind == api.Stable {
			k++
			continue
		}
		is(t, "Lose", h.Lose(k), api.OK)
	}
	for h.Many() < api.MaxFlight {
		is(t, "Twice", h.Twice(0), api.OK)
	}
}

// 7.4: Calm brings all that is missing, also if what is under way leaves no room to tell it again.
func TestCalmWithoutRoom(t *testing.T) {
	h := calmHouse(t, 2, 3)
	h.Tick()
	id, _, _ := wroteBoth(t, h)
	ends(t, h, id)
	stuff(t, h)
	state(t, h, id, Ending)
	h.Calm()
	state(t, h, id, Committed)
	count(t, "Many", h.Many(), 0)
}

// 7.4: Calm brings all that is missing, also if that is far more than can be under way at once.
func TestCalmOfMuch(t *testing.T) {
	h := calmHouse(t, 4, 4)
	for id := 1; id <= api.MaxTxs; id++ {
		begin(t, h)
		for k := range 4 {
			puts(t, h, id, string([]byte{byte(4*id + k)}), "x")
		}
		ends(t, h, id)
		loseAll(t, h)
	}
	h.Tick()
	stuff(t, h)
	h.Calm()
	for id := 1; id <= api.MaxTxs; id++ {
		state(t, h, id, Committed)
	}
	for k := range 4 {
		for _, log := range logs(t, h, k) {
			count(t, "commands", len(log), 2*api.MaxTxs)
		}
	}
	count(t, "Many", h.Many(), 0)
}

// 7.1, 4.2: nodes that got their configuration tell what Tick tells: that is under way at first.
func TestManyAtFirst(t *testing.T) {
	for shards := 1; shards <= 4; shards++ {
		count(t, "Many", house(t, shards, 1).Many(), 0)
		for nodes := 2; nodes <= 4; nodes++ {
			h := house(t, shards, nodes)
			count(t, "Many", h.Many(), (shards+1)*nodes)
			quiet(t, h)
			id := begin(t, h)
			puts(t, h, id, "a", "x")
			ends(t, h, id)
			quiet(t, h)
			state(t, h, id, Committed)
		}
	}
}

// 7.3: Tick: each node that lives tells something (one alone has nobody to tell).
func TestTick(t *testing.T) {
	for nodes := 1; nodes <= 4; nodes++ {
		h := calmHouse(t, 3, nodes)
		want := 4 * nodes
		if nodes == 1 {
			want = 0
		}
		h.Tick()
		count(t, "Many", h.Many(), want)
		h.Tick()
		count(t, "Many", h.Many(), 2*want)
		quiet(t, h)
		if nodes != 3 {
			continue
		}
		fails(t, h, 1)
		h.Tick()
		count(t, "Many of who lives, and to who lives", h.Many(), want-3)
	}
}

// 7.3: Fail: ErrMissing, if no node that lives has that number; nothing of it, or to it, is under way.
func TestFail(t *testing.T) {
	h := calmHouse(t, 2, 3)
	for _, id := range append(numbers(), 3, 9, 13, 23, 30) {
		is(t, "Fail", h.Fail(id), api.ErrMissing)
	}
	h.Tick()
	count(t, "Many", h.Many(), 9)
	fails(t, h, 1)
	count(t, "Many", h.Many(), 6)
	is(t, "Fail", h.Fail(1), api.ErrMissing)
	logged(t, h, 0, 2)
	h.Fix()
	is(t, "Fail", h.Fail(1), api.ErrMissing)
	logged(t, h, 0, 2)
	logged(t, h, 1, 3)
	fails(t, h, 0, 2)
	logged(t, h, 0, 0)
	is(t, "Fail", h.Fail(2), api.ErrMissing)
}

// 7.3: Alive: has each chain a node that lives?
func TestAlive(t *testing.T) {
	for shards := 1; shards <= 4; shards++ {
		for nodes := 1; nodes <= 4; nodes++ {
			for chain := range shards + 1 {
				h := house(t, shards, nodes)
				for k := range shards + 1 {
					for i := range nodes - 1 {
						fails(t, h, 10*k+(i+k)%nodes)
					}
					if k%2 == 0 {
						h.Fix()
					}
				}
				if !h.Alive() {
					t.Error("each chain has a node that lives")
				}
				fails(t, h, 10*chain+(nodes-1+chain)%nodes)
				if h.Alive() {
					t.Error("a chain has no node that lives")
				}
				h.Fix()
				h.Calm()
				if h.Alive() {
					t.Error("Fix brings nobody to life")
				}
			}
		}
	}
}
