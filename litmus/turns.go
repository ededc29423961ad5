package litmus

import (
	"slices"

	"fencepost/api"
	"fencepost/inter"
)

// move is a hart's turn at an instruction of memory: which of its own it is.
type move struct {
	hart, at int
}

// byTurns answers the turns' outcomes.
func (t test) byTurns() [][]uint64 {
	met, wins := outcomes{}, t.wins()
	for order := range orders(t.moves(), isNext) {
		turns := t.turns(order)
		for _, w := range wins {
			woven, _ := inter.Do(t.Image, api.Weave{First: t.First, Harts: turns, Wins: w})
			var harts []api.Hart
			for _, trace := range woven.Traces {
				harts = append(harts, trace.End)
			}
			met[t.outcome(harts)] = struct{}{}
		}
	}
	return met.told(len(t.Look))
}

// moves answers all moves of a test's harts.
func (t test) moves() []move {
	var l []move
	for hart, way := range t.ways {
		for at := range movesOf(way) {
			l = append(l, move{hart: hart, at: at})
		}
	}
	return l
}

// isNext tells whether a move is its hart's next one behind those ahead.
func isNext(ahead []move, next move) bool {
	done := 0
	for _, m := range ahead {
		if m.hart == next.hart {
			done++
		}
	}
	return done == next.at
}

// turns answers the turns in which harts make their moves in an order and then end. No one else sees what a hart does between, so it is done just ahead of the next move.
func (t test) turns(order []move) []int {
	var turns []int
	done := make([]int, len(t.ways))
	for _, m := range order {
		up := movesOf(t.ways[m.hart])[m.at] + 1
		turns = append(turns, slices.Repeat([]int{m.hart}, up-done[m.hart])...)
		done[m.hart] = up
	}
	for hart, way := range t.ways {
		turns = append(turns, slices.Repeat([]int{hart}, len(way)+1-done[hart])...)
	}
	return turns
}

// wins answers all that scs may be told, as far as a weave of the test asks.
func (t test) wins() [][]bool {
	lrs, scs := 0, 0
	for _, way := range t.ways {
		for _, i := range way {
			switch i.Op {
			case api.RvLrD:
				lrs++
			case api.RvScD:
				scs++
			}
		}
	}
	// Each sc that may win needs an lr of its own.
	either := slices.Repeat([][]bool{{false, true}}, min(lrs, scs))
	var all [][]bool
	for w := range choices(either) {
		all = append(all, slices.Clone(w))
	}
	return all
}
