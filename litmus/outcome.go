package litmus

import (
	"slices"

	"fencepost/api"
)

// outcome is what the registers have that are looked at, noughts behind them.
type outcome [maxLook]uint64

// outcomes are those that were come to.
type outcomes map[outcome]struct{}

// outcome answers what a test's registers have of harts that ended.
func (t test) outcome(harts []api.Hart) outcome {
	var o outcome
	for at, r := range t.Look {
		o[at] = harts[r.Hart].X[r.X]
	}
	return o
}

// told answers outcomes, of so many registers each, rising.
func (o outcomes) told(many int) [][]uint64 {
	var l [][]uint64
	for one := range o {
		l = append(l, fresh(one[:many]))
	}
	slices.SortFunc(l, slices.Compare)
	return l
}
