package inter

import (
	"slices"

	"fencepost/api"
	"fencepost/cand"
	"fencepost/event"
)

// Shared answers a candidate cut to a range of addresses, from one up to another one.
func Shared(c api.Cand, from, to uint64) api.Cand {
	if cand.Check(c) != api.OK {
		return whole(c)
	}
	within := func(addr uint64) bool { return from <= addr && addr < to }
	stays := func(e api.Event) bool { return !event.Memory(e) || within(e.Addr) }
	var cut api.Cand
	for _, cell := range c.First {
		if within(cell.Addr) {
			cut.First = append(cut.First, cell)
		}
	}
	for _, row := range c.Harts {
		cut.Harts = append(cut.Harts, moved(row, counted(row, stays)))
	}
	numbers := counted(slices.Concat(c.Harts...), stays)
	for n, source := range c.From {
		if numbers[n] == none {
			continue
		}
		// Who is read from stands where the one that reads does: it stays, too.
		if source != none {
			source = numbers[source]
		}
		cut.From = append(cut.From, source)
	}
	cut.Order = named(c.Order, numbers)
	return cut
}

// counted answers of each event how many ahead of it stay, if it stays itself; else none.
func counted(l []api.Event, stays func(e api.Event) bool) []int {
	counts, many := make([]int, len(l)), 0
	for at, e := range l {
		counts[at] = none
		if stays(e) {
			counts[at] = many
			many++
		}
	}
	return counts
}

// moved answers the events of a row that stay, by their new places.
func moved(row []api.Event, places []int) []api.Event {
	var kept []api.Event
	for at, e := range row {
		if places[at] == none {
			continue
		}
		e.At = places[at]
		if e.Kind == api.EvSC {
			e.Pair = places[e.Pair]
		}
		e.Deps = api.Deps{Addr: named(e.Deps.Addr, places), Data: named(e.Deps.Data, places), Way: named(e.Deps.Way, places)}
		kept = append(kept, e)
	}
	return kept
}

// named answers a list by new numbers, those that are gone left out.
func named(l, numbers []int) []int {
	var names []int
	for _, n := range l {
		if numbers[n] != none {
			names = append(names, numbers[n])
		}
	}
	return names
}

// whole answers a candidate in new memory.
func whole(c api.Cand) api.Cand {
	own := api.Cand{First: fresh(c.First), From: fresh(c.From), Order: fresh(c.Order)}
	for _, row := range c.Harts {
		own.Harts = append(own.Harts, copied(row))
	}
	return own
}

// copied answers events in new memory, their lists too.
func copied(row []api.Event) []api.Event {
	own := fresh(row)
	for at := range own {
		d := &own[at].Deps
		*d = api.Deps{Addr: fresh(d.Addr), Data: fresh(d.Data), Way: fresh(d.Way)}
	}
	return own
}

// fresh answers a list in new memory.
func fresh[T any](l []T) []T {
	return append([]T(nil), l...)
}
