package ppo

import (
	"slices"

	"fencepost/api"
)

// rule tells whether it holds of a and b, both memory's, a ahead of b.
type rule func(v *view, a, b int) bool

// rules answers all rules in their order, rule 1 first.
func rules() [13]rule {
	return [...]rule{
		written, readAnew, readOwn,
		fenced, acquired, released, marked, paired,
		addressed, fed, steered,
		handedOn, waited,
	}
}

// first answers the first rule that holds of a and b, 0 if there is none.
func (v *view) first(a, b int) int {
	if !v.ahead(a, b) {
		return 0
	}
	for n, holds := range rules() {
		if holds(v, a, b) {
			return n + 1
		}
	}
	return 0
}

// written is rule 1: b writes where a is.
func written(v *view, a, b int) bool {
	return v.writes(b) && v.oneAddr(a, b)
}

// readAnew is rule 2: both read one Addr, from two, and the hart itself wrote nothing there between.
func readAnew(v *view, a, b int) bool {
	return v.reads(a) && v.reads(b) && v.oneAddr(a, b) &&
		!between(a, v.known[b].writer, b) && v.from[a] != v.from[b]
}

// readOwn is rule 3: b reads from a, which is an SC or amo.
func readOwn(v *view, a, b int) bool {
	kind := v.all[a].Kind
	return (kind == api.EvSC || kind == api.EvAmo) && v.reads(b) && v.from[b] == a
}

// fenced is rule 4: at a fence between, one like b waits for one like a.
func fenced(v *view, a, b int) bool {
	return between(a, v.known[b].fences[v.known[a].sides], b)
}

// acquired is rule 5: a has Aq.
func acquired(v *view, a, _ int) bool {
	return v.all[a].Aq
}

// released is rule 6: b has Rl.
func released(v *view, _, b int) bool {
	return v.all[b].Rl
}

// marked is rule 7: both have Aq or Rl.
func marked(v *view, a, b int) bool {
	return (v.all[a].Aq || v.all[a].Rl) && (v.all[b].Aq || v.all[b].Rl)
}

// paired is rule 8: b is an SC whose Pair is a.
func paired(v *view, a, b int) bool {
	return v.all[b].Kind == api.EvSC && v.all[b].Pair == v.all[a].At
}

// addressed is rule 9: b hangs on a by its address.
func addressed(v *view, a, b int) bool {
	return v.in(v.all[b].Deps.Addr, a)
}

// fed is rule 10: b hangs on a by its data.
func fed(v *view, a, b int) bool {
	return v.in(v.all[b].Deps.Data, a)
}

// steered is rule 11: b writes, and hangs on a by the way.
func steered(v *view, a, b int) bool {
	return v.writes(b) && v.in(v.all[b].Deps.Way, a)
}

// handedOn is rule 12: b reads from one between that hangs on a by its address or data.
func handedOn(v *view, a, b int) bool {
	from := v.from[b]
	return v.reads(b) && between(a, from, b) && (addressed(v, a, from) || fed(v, a, from))
}

// waited is rule 13: b writes, and one between hangs on a by its address.
func waited(v *view, a, b int) bool {
	return v.writes(b) && between(a, v.known[a].hanger, b)
}

// in tells whether a list of places in a's hart, which rises, has that of a.
func (v *view) in(l []int, a int) bool {
	_, is := slices.BinarySearch(l, v.all[a].At)
	return is
}
