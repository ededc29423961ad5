package inter

import (
	"slices"

	"fencepost/api"
	"fencepost/cand"
	"fencepost/event"
	"fencepost/run"
)

// Plain tells whether a candidate is plain: whether it is no more than harts by turns, as far as memory sees them.
func Plain(c api.Cand) bool {
	if cand.Check(c) != api.OK {
		return false
	}
	all := slices.Concat(c.Harts...)
	last := slices.Repeat([]int{none}, len(c.Harts))
	// Where in the order each address was stored to last, from 1 on; 0 of none.
	stored := map[uint64]int{}
	for place, n := range c.Order {
		e := all[n]
		if n < last[e.Hart] || event.Reads(e) && c.From[n] != before(c.Order, stored[e.Addr]) {
			return false
		}
		last[e.Hart] = n
		if event.Writes(e) {
			stored[e.Addr] = place + 1
		}
	}
	return true
}

// before answers the number just before a place in an order; of the first place none.
func before(order []int, place int) int {
	if place == 0 {
		return none
	}
	return order[place-1]
}

// Turns answers the turns that come to a plain candidate's events, each hart's up to its last one in the order, and whether there are such.
func Turns(m api.Image, c api.Cand) ([]int, bool) {
	if run.Check(m) != api.OK || !Plain(c) {
		return nil, false
	}
	l := newLoom(m, c.First, func(s *strand) bool {
		// One that lost is no event, and no other one wins behind it without an lr ahead: so the event that comes next tells.
		return c.Harts[s.number][s.made].Kind == api.EvSC
	})
	all := slices.Concat(c.Harts...)
	var turns []int
	for _, n := range c.Order {
		many, is := l.reach(all[n])
		// Of more turns no weave may be.
		if !is || len(turns)+many > api.MaxSteps {
			return nil, false
		}
		turns = append(turns, slices.Repeat([]int{all[n].Hart}, many)...)
	}
	if !l.makes(c.Harts) {
		return nil, false
	}
	return turns, true
}

// reach turns an event's hart till it made as many events as it has up to this one, and answers how many turns that took, and whether none of these events needed too many.
func (l *loom) reach(e api.Event) (int, bool) {
	if e.Hart >= len(l.strands) {
		return 0, false
	}
	s, all := l.strands[e.Hart], 0
	// Fences ahead of it are events too: each of them has turns of its own.
	for s.made <= e.At {
		many, is := l.next(s)
		if !is {
			return 0, false
		}
		all += many
	}
	return all, true
}

// next turns a hart till it made one event more, and answers how many turns that took, and whether they were not too many.
func (l *loom) next(s *strand) (int, bool) {
	made := s.made
	for ahead := range api.MaxWait {
		l.turns[s.number]()
		if s.made > made {
			return ahead + 1, true
		}
	}
	return 0, false
}

// makes tells whether the events that were made are the first ones of these rows.
func (l *loom) makes(rows [][]api.Event) bool {
	for number, t := range l.traces() {
		many := len(t.Events)
		if many > 0 && !slices.EqualFunc(t.Events, rows[number][:many], event.Same) {
			return false
		}
	}
	return true
}
