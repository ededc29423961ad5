package ppo

import (
	"slices"

	"fencepost/api"
	"fencepost/cand"
	"fencepost/event"
)

// sides is what an event does to memory: nothing, api.FenceR, api.FenceW or both, just as a fence names it.
type sides int

// sideSets is how many sets of sides there are.
const sideSets = (api.FenceR | api.FenceW) + 1

// known is what rules ask about an event, worked out once. A number that there is none of is 0: the first event stands between no two.
type known struct {
	sides sides
	// writer is the last one ahead of it that writes its Addr.
	writer int
	// fences are, for each sides, the last fence ahead of it at which it waits for one that does these.
	fences [sideSets]int
	// hanger is the first one that hangs on it by its address.
	hanger int
}

// view is a candidate's events by number, and what is known of each. No hart's numbers stand between two of another one, so that what is known need not tell harts apart.
type view struct {
	all   []api.Event
	from  []int
	known []known
}

// look answers the view of a candidate, and whether it may be; of one that may not be it has no events.
func look(c api.Cand) (*view, bool) {
	if cand.Check(c) != api.OK {
		return &view{}, false
	}
	// The events' lists are only looked at, so they need not be copied, as cand.All would do.
	all := slices.Concat(c.Harts...)
	v := &view{all: all, from: c.From, known: make([]known, len(all))}
	v.findSides()
	v.findWriters()
	v.findFences()
	v.findHangers()
	return v, true
}

func (v *view) findSides() {
	for n, e := range v.all {
		if event.Reads(e) {
			v.known[n].sides |= api.FenceR
		}
		if event.Writes(e) {
			v.known[n].sides |= api.FenceW
		}
	}
}

func (v *view) findWriters() {
	last := map[uint64]int{}
	for n := range v.all {
		addr := v.all[n].Addr
		v.known[n].writer = last[addr]
		if v.writes(n) {
			last[addr] = n
		}
	}
}

func (v *view) findFences() {
	var last [sideSets][sideSets]int
	for n := range v.all {
		v.known[n].fences = last[v.known[n].sides]
		if v.memory(n) {
			continue
		}
		for succ := range last {
			for pred := range last[succ] {
				if v.all[n].Succ&succ != 0 && v.all[n].Pred&pred != 0 {
					last[succ][pred] = n
				}
			}
		}
	}
}

func (v *view) findHangers() {
	for n := range v.all {
		row := n - v.all[n].At
		for _, at := range v.all[n].Deps.Addr {
			if k := &v.known[row+at]; k.hanger == 0 {
				k.hanger = n
			}
		}
	}
}

func (v *view) reads(n int) bool  { return v.known[n].sides&api.FenceR != 0 }
func (v *view) writes(n int) bool { return v.known[n].sides&api.FenceW != 0 }

// memory tells whether it is memory's: what does nothing to it is a fence.
func (v *view) memory(n int) bool { return v.known[n].sides != 0 }

func (v *view) oneHart(a, b int) bool { return v.all[a].Hart == v.all[b].Hart }
func (v *view) oneAddr(a, b int) bool { return v.all[a].Addr == v.all[b].Addr }

// ahead tells whether a and b are numbers, both memory's, and a stands ahead of b.
func (v *view) ahead(a, b int) bool {
	return 0 <= a && a < b && b < len(v.all) && v.oneHart(a, b) && v.memory(a) && v.memory(b)
}

// between tells whether n stands between a and b.
func between(a, n, b int) bool {
	return a < n && n < b
}
