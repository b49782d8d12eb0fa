package check

import "slices"

// search goes through orders, the least one first.
type search struct {
	txs   []Tx
	order []int  // so far
	now   values // behind those of the order
}

// finish makes an order of what is there so far, and says whether one that fits begins so. An order that lacks nobody is told at once: all that go on from it are greater.
func (s *search) finish() bool {
	if s.whole() {
		return true
	}
	for n, t := range s.txs {
		if !s.next(n) {
			continue
		}
		was, fits := s.now.do(t.Ops)
		s.order = append(s.order, n)
		if fits && s.finish() {
			return true
		}
		s.order = s.order[:len(s.order)-1]
		s.now.undo(was)
	}
	return false
}

// whole says whether all that were told that they are done are there.
func (s *search) whole() bool {
	for n, t := range s.txs {
		if t.done() && !s.has(n) {
			return false
		}
	}
	return true
}

// next says whether a transaction may stand next: all that must be ahead of it are.
func (s *search) next(n int) bool {
	if s.has(n) {
		return false
	}
	for m, t := range s.txs {
		if m != n && t.ahead(s.txs[n]) && !s.has(m) {
			return false
		}
	}
	return true
}

// has says whether a transaction is in the order.
func (s *search) has(n int) bool { return slices.Contains(s.order, n) }

// done says whether a transaction was told that it is.
func (t Tx) done() bool { return t.To >= 0 }

// ahead says whether a transaction was told that it is done ahead of another one's beginning.
func (t Tx) ahead(other Tx) bool { return t.done() && t.To < other.From }
