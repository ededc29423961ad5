package axiom

import (
	"slices"

	"fencepost/event"
)

// sources answers which one each number should read from, none of one that does not read.
func (v *view) sources() []int {
	sources := slices.Repeat([]int{none}, len(v.all))
	// By address, the last one, by place, of those that were met and write there.
	met := map[uint64]int{}
	// Those that have a place below its own.
	for _, n := range v.Order {
		v.meet(n, met, sources)
	}
	// Those that stand ahead of it in program order, whatever their places.
	for n := range v.all {
		if v.all[n].At == 0 {
			clear(met)
		}
		v.meet(n, met, sources)
	}
	return sources
}

// meet holds the source that a number has so far against who was met; only then the number is met itself, so that none is its own source.
func (v *view) meet(n int, met map[uint64]int, sources []int) {
	e := v.all[n]
	last, is := met[e.Addr]
	if !is {
		last = none
	}
	if event.Reads(e) {
		sources[n] = v.later(sources[n], last)
	}
	if event.Writes(e) {
		met[e.Addr] = v.later(last, n)
	}
}
