package litmus

import (
	"cmp"
	"slices"

	"fencepost/api"
	"fencepost/axiom"
	"fencepost/run"
)

// model answers the model's outcomes.
func (t test) model() [][]uint64 {
	met := outcomes{}
	for runs := range choices(t.runs) {
		var harts []api.Hart
		for _, r := range runs {
			harts = append(harts, r.Hart)
		}
		one := t.outcome(harts)
		if _, is := met[one]; !is && t.allows(runs) {
			met[one] = struct{}{}
		}
	}
	return met.told(len(t.Look))
}

// allows tells whether some candidate of these runs, one a hart, is allowed.
func (t test) allows(runs []*whole) bool {
	c := crowd{test: t, chosen: runs}
	var numbers []int
	for _, r := range runs {
		c.deeds = append(c.deeds, r.deeds...)
	}
	for n := range c.deeds {
		numbers = append(numbers, n)
	}
	for order := range orders(numbers, c.fits) {
		if axiom.Ok(c.cand(order)) {
			return true
		}
	}
	return false
}

// crowd is what all harts did in their runs: their deeds, hart by hart.
type crowd struct {
	test
	chosen []*whole
	deeds  []deed
}

// fits tells whether a deed may be the next one in an order, as far as its address and what it loaded tell: others need not be judged.
func (c crowd) fits(ahead []int, next int) bool {
	d := c.deeds[next]
	if d.writes {
		// What a hart stores comes behind all that it did there earlier (10, rule 1).
		for n := range next {
			if c.deeds[n].hart == d.hart && c.deeds[n].addr == d.addr && !slices.Contains(ahead, n) {
				return false
			}
		}
	}
	return !d.reads || d.load == c.stands(c.source(ahead, next), d.addr)
}

// stands answers what a deed stored at an address; of none, what memory has there at first.
func (c crowd) stands(source int, addr uint64) uint64 {
	if source != none {
		return c.deeds[source].store
	}
	return c.first(addr)
}

// first answers what memory has at an address at first.
func (t test) first(addr uint64) uint64 {
	at, is := slices.BinarySearchFunc(t.First, addr, func(c api.Cell, addr uint64) int { return cmp.Compare(c.Addr, addr) })
	if !is {
		return 0
	}
	return t.First[at].Value
}

// stores tells whether a deed stores at an address.
func (c crowd) stores(n int, addr uint64) bool {
	return c.deeds[n].writes && c.deeds[n].addr == addr
}

// source answers the deed that another one should read from behind those that stand ahead of it; none, if from what memory had at first.
func (c crowd) source(ahead []int, next int) int {
	d := c.deeds[next]
	for n := next - 1; n >= 0 && c.deeds[n].hart == d.hart; n-- {
		if !c.stores(n, d.addr) {
			continue
		}
		// What its own hart stored last is read from, also where it comes to memory later.
		if !slices.Contains(ahead, n) {
			return n
		}
		break
	}
	for place := len(ahead) - 1; place >= 0; place-- {
		if c.stores(ahead[place], d.addr) {
			return ahead[place]
		}
	}
	return none
}

// cand answers the candidate in which all deeds stand in an order.
func (c crowd) cand(order []int) api.Cand {
	all := api.Cand{First: c.First}
	var numbers []int
	for hart, r := range c.chosen {
		row := c.row(hart, r)
		all.Harts = append(all.Harts, row)
		for _, e := range row {
			if e.Kind != api.EvFence {
				numbers = append(numbers, len(all.From))
			}
			all.From = append(all.From, none)
		}
	}
	for place, n := range order {
		all.Order = append(all.Order, numbers[n])
		if source := c.source(order[:place], n); c.deeds[n].reads && source != none {
			all.From[numbers[n]] = numbers[source]
		}
	}
	return all
}

// row answers the events of a hart's run. They are asked for late, since few runs are ever part of a candidate.
func (c crowd) row(hart int, r *whole) []api.Event {
	if !r.known {
		t, _ := run.Run(c.Image, hart, r.Picks)
		r.events, r.known = t.Events, true
	}
	return r.events
}
