package axiom

import (
	"slices"

	"fencepost/api"
	"fencepost/cand"
)

// view is a candidate that may be, its events by number, and of each its place in Order.
type view struct {
	api.Cand
	all    []api.Event
	places []int
}

// look answers the view of a candidate, and whether it may be; of one that may not be it has no events.
func look(c api.Cand) (*view, bool) {
	if cand.Check(c) != api.OK {
		return &view{}, false
	}
	// The events' lists are not looked at here, so they need not be copied, as cand.All would do.
	return &view{Cand: c, all: slices.Concat(c.Harts...), places: cand.Places(c)}, true
}

// place answers the place of a number; none is ahead of all.
func (v *view) place(n int) int {
	if n == none {
		return none
	}
	return v.places[n]
}

// later answers the one of two numbers that has the higher place.
func (v *view) later(a, b int) int {
	if v.place(a) < v.place(b) {
		return b
	}
	return a
}
