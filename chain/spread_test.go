package chain

import (
	"slices"
	"testing"

	"chainmail/api"
	"chainmail/plain"
)

// die has numbers that look drawn, the same each time.
type die uint64

func (d *die) below(most int) int {
	*d = *d*6364136223846793005 + 1442695040888963407
	return int(uint64(*d>>33) % uint64(most))
}

// past is what a node was ahead of a step.
type past struct {
	in     bool
	log    []api.Cmd
	stable int
}

// world has a chain whose messages are lost, told twice and late, and whose nodes hear of its configurations each in its own time, in order.
type world struct {
	t     *testing.T
	d     die
	nodes []*Node
	heard []int          // of each node: how many configurations it took
	came  []int          // of each node: the configuration with which it came in last
	all   []api.Config   // all configurations so far
	way   []api.Msg      // messages under way
	txs   int            // commands so far
	was   map[*Node]past // of each node: what it was ahead of this step
}

// begin is a world of a chain of the first so many of MaxNodes+2 nodes, all of which took that.
func begin(t *testing.T, seed, many int) *world {
	w := &world{t: t, d: die(seed)}
	for id := range api.MaxNodes + 2 {
		w.nodes = append(w.nodes, New(id))
	}
	w.heard, w.came = make([]int, len(w.nodes)), make([]int, len(w.nodes))
	var first []int
	for id := range many {
		first = append(first, id)
	}
	w.all = []api.Config{{Epoch: 1, Nodes: first}}
	w.hearAll()
	return w
}

// now is the last configuration.
func (w *world) now() []int { return w.all[len(w.all)-1].Nodes }

// hear has a node take the next configuration that it has not heard of, if there is one.
func (w *world) hear(id int) {
	if w.heard[id] == len(w.all) {
		return
	}
	l, err := w.nodes[id].Become(w.all[w.heard[id]])
	is(w.t, "Become", err, api.OK)
	w.heard[id]++
	w.way = append(w.way, l...)
}

func (w *world) hearAll() {
	for id := range w.nodes {
		for w.heard[id] < len(w.all) {
			w.hear(id)
		}
	}
}

// drop has a configuration without one of its nodes.
func (w *world) drop() {
	l := slices.Clone(w.now())
	if len(l) > 1 {
		k := w.d.below(len(l))
		w.all = append(w.all, api.Config{Epoch: len(w.all) + 1, Nodes: slices.Delete(l, k, k+1)})
	}
}

// join has a configuration with one node more, as the last one.
func (w *world) join() {
	id := w.d.below(len(w.nodes))
	l := slices.Clone(w.now())
	if len(l) < api.MaxNodes && !slices.Contains(l, id) {
		w.all = append(w.all, api.Config{Epoch: len(w.all) + 1, Nodes: append(l, id)})
		w.came[id] = len(w.all) - 1
	}
}

// add has whoever takes itself for the Head add a command.
func (w *world) add() {
	n := w.nodes[w.d.below(len(w.nodes))]
	if !n.Head() {
		return
	}
	_, l, err := n.Add(cmd(w.txs))
	is(w.t, "Add", err, api.OK)
	w.txs++
	w.way = append(w.way, l...)
}

// deliver has one of those under way come, whichever; it stays under way if it is to come twice.
func (w *world) deliver(k int, twice bool) {
	m := w.way[k]
	if !twice {
		w.way = slices.Delete(w.way, k, k+1)
	}
	w.way = append(w.way, w.nodes[m.To].Step(m)...)
}

// step does something.
func (w *world) step(joins bool) {
	k := w.d.below(20)
	switch {
	case k < 4:
		w.add()
	case k < 14 && len(w.way) > 0:
		w.deliver(w.d.below(len(w.way)), w.d.below(5) == 0)
	case k < 16 && len(w.way) > 0:
		k := w.d.below(len(w.way))
		w.way = slices.Delete(w.way, k, k+1)
	case k < 17:
		w.way = append(w.way, w.nodes[w.d.below(len(w.nodes))].Tick()...)
	case k < 19:
		w.hear(w.d.below(len(w.nodes)))
	case w.d.below(4) == 0:
		w.drop()
	case joins:
		w.join()
	}
}

// remember keeps what nodes are ahead of a step.
func (w *world) remember() {
	w.was = map[*Node]past{}
	for _, n := range w.nodes {
		w.was[n] = past{n.In(), n.Log(), n.Stable()}
	}
}

// grew checks that logs of nodes that were In, and are, only grew, and what is stable stays.
func (w *world) grew() {
	for n, p := range w.was {
		if p.in && n.In() && (!plain.Begins(n.Log(), p.log) || n.Stable() < p.stable) {
			w.t.Fatalf("node %d: %v, %d stable, has become %v, %d stable", n.Id(), p.log, p.stable, n.Log(), n.Stable())
		}
		if n.Stable() > n.Len() {
			w.t.Fatalf("node %d: %d of %d are stable", n.Id(), n.Stable(), n.Len())
		}
	}
}

// fits checks that logs of a chain are beginnings of those ahead, of nodes that took it and were In ever since they came.
func (w *world) fits() {
	l := slices.DeleteFunc(slices.Clone(w.now()), func(id int) bool { return w.heard[id] <= w.came[id] })
	for i, id := range l {
		for _, other := range l[:i] {
			if !plain.Begins(w.nodes[other].Log(), w.nodes[id].Log()) {
				w.t.Fatalf("node %d: %v is no beginning of node %d: %v", id, w.nodes[id].Log(), other, w.nodes[other].Log())
			}
		}
	}
}

// lasts checks that what one calls stable all nodes of its chain have that were In it from the first on.
func (w *world) lasts() {
	for _, n := range w.nodes {
		for _, id := range n.nodes {
			if other := w.nodes[id]; n.In() && w.came[id] == 0 && !plain.Begins(other.Log(), n.Log()[:n.Stable()]) {
				w.t.Fatalf("node %d calls %d stable of %v, node %d has %v", n.Id(), n.Stable(), n.Log(), id, other.Log())
			}
		}
	}
}

// calm has each node of the chain tick, and messages come, the first one first, until none is under way; nothing is lost.
func (w *world) calm() {
	for _, n := range w.nodes {
		w.way = append(w.way, n.Tick()...)
	}
	for len(w.way) > 0 {
		w.deliver(0, false)
	}
}

// down checks that all nodes of the chain have the Head's log, and all of it is stable.
func (w *world) down() {
	head := w.nodes[w.now()[0]]
	for _, id := range w.now() {
		n := w.nodes[id]
		if !plain.Log(n.Log(), head.Log()) || n.Stable() != head.Len() {
			w.t.Fatalf("node %d: %v, %d stable, the head has %v", id, n.Log(), n.Stable(), head.Log())
		}
	}
}

// 4.5: with whichever messages lost, twice, or late, and whichever nodes leave and come in as the last ones: logs only grow, the next one's is the beginning, what is stable all others have; when nothing is lost any more it all comes down.
func TestSpread(t *testing.T) {
	for seed := range 300 {
		many := 1 + seed%api.MaxNodes
		w := begin(t, seed, many)
		for range 300 {
			w.remember()
			w.step(seed%2 == 0)
			w.grew()
			w.fits()
			w.lasts()
		}
		w.hearAll()
		w.calm()
		w.down()
		w.fits()
		w.lasts()
	}
}

// 4.5: while no message comes but late and lost ones nothing more is stable than all have; a Tick that is lost does no harm.
func TestAllIsLost(t *testing.T) {
	w := begin(t, 1, 4)
	w.way = nil
	for tx := range 10 {
		_, _, err := w.nodes[0].Add(cmd(tx))
		is(t, "Add", err, api.OK)
		for _, n := range w.nodes {
			n.Tick()
		}
	}
	length(t, w.nodes[0], 10, 0)
	for _, n := range w.nodes[1:] {
		length(t, n, 0, 0)
	}
	w.calm()
	w.down()
	length(t, w.nodes[3], 10, 10)
}

// 4.5: logs of MaxLog come down a chain of MaxNodes.
func TestFullLogsComeDown(t *testing.T) {
	w := begin(t, 1, api.MaxNodes)
	for tx := range api.MaxLog {
		_, l, err := w.nodes[0].Add(cmd(tx))
		is(t, "Add", err, api.OK)
		if tx%3 > 0 {
			w.way = append(w.way, l...)
		}
	}
	w.calm()
	w.down()
	length(t, w.nodes[api.MaxNodes-1], api.MaxLog, api.MaxLog)
}

// 4.5: what was stable lasts, whichever node is left alone; it goes on from there.
func TestWhatIsStableLasts(t *testing.T) {
	for left := range 4 {
		w := begin(t, 1, 4)
		for tx := range 3 {
			w.way = append(w.way, give(t, w.nodes[0], tx)...)
		}
		w.calm()
		give(t, w.nodes[0], 3) // it is lost on its way
		w.all = append(w.all, api.Config{Epoch: 2, Nodes: []int{left}})
		w.hearAll()
		n := w.nodes[left]
		want := []int{0, 1, 2}
		if left == 0 {
			want = append(want, 3)
		}
		has(t, n, want...)
		count(t, "Stable", n.Stable(), len(want))
		give(t, n, 9)
		has(t, n, append(want, 9)...)
	}
}
