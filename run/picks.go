package run

import (
	"fencepost/api"
)

// queue has what is still to be eaten, the next one first.
type queue[T any] struct {
	left []T
}

// eat answers the next one, if there is one, and takes it away.
func (q *queue[T]) eat() (T, bool) {
	var next T
	if len(q.left) == 0 {
		return next, false
	}
	next, q.left = q.left[0], q.left[1:]
	return next, true
}

// picks are those that a run has not taken yet.
type picks struct {
	loads queue[uint64]
	wins  queue[bool]
}

func newPicks(p api.Picks) picks {
	return picks{loads: queue[uint64]{p.Loads}, wins: queue[bool]{p.Wins}}
}

// grip is the address that the last lr took, as long as no sc came since.
type grip struct {
	addr  uint64
	taken bool
}

// take takes an address, for an lr.
func (g *grip) take(addr uint64) {
	*g = grip{addr: addr, taken: true}
}

// leave lets go, for an sc, and tells whether its address was held.
func (g *grip) leave(addr uint64) bool {
	held := g.taken && g.addr == addr
	*g = grip{}
	return held
}
