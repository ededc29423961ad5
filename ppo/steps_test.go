package ppo_test

import (
	"testing"

	"fencepost/api"
	"fencepost/cand"
	"fencepost/ppo"
)

// P10.2: Whole, Full

// holdWhole holds whether a leads to b, that no rule holds of these two, or that one does, and that b does not lead to a.
func holdWhole(t *testing.T, c api.Cand, a, b int, whole, rule bool) {
	t.Helper()
	if err := cand.Check(c); err != api.OK {
		t.Fatalf("%+v may not be: %d", c, err)
	}
	if got := ppo.Whole(c, a, b); got != whole {
		t.Errorf("Whole(%+v, %d, %d) = %t", c, a, b, got)
	}
	if got := ppo.Rule(c, a, b); got > 0 != rule {
		t.Errorf("Rule(%+v, %d, %d) = %d", c, a, b, got)
	}
	if ppo.Whole(c, b, a) {
		t.Errorf("Whole(%+v, %d, %d)", c, b, a)
	}
}

func TestWhole(t *testing.T) {
	// One step, none.
	c := of(row{store(8), load(16), store(8)})
	holdWhole(t, c, 0, 2, true, true)
	holdWhole(t, c, 0, 1, false, false)
	holdWhole(t, c, 1, 2, false, false)
	// Two: a store's data, then its address.
	c = of(row{load(8), load(32), byData(store(16), 0), store(16), load(24)})
	holdWhole(t, c, 0, 2, true, true)
	holdWhole(t, c, 2, 3, true, true)
	holdWhole(t, c, 0, 3, true, false)
	holdWhole(t, c, 1, 3, false, false)
	holdWhole(t, c, 0, 4, false, false)
	holdWhole(t, c, 3, 4, false, false)
	// Three, by several rules.
	c = of(row{load(8), byData(store(16), 0), amo(16), fence(w, r), load(24), byAddr(load(32), 4)})
	holdWhole(t, c, 0, 2, true, false)
	holdWhole(t, c, 0, 4, true, false)
	holdWhole(t, c, 0, 5, true, false)
	holdWhole(t, c, 2, 5, true, true)
	// Without the step over the fence.
	c = of(row{load(8), byData(store(16), 0), amo(16), fence(o, r), load(24), byAddr(load(32), 4)})
	holdWhole(t, c, 0, 2, true, false)
	holdWhole(t, c, 0, 4, false, false)
	holdWhole(t, c, 0, 5, false, false)
	holdWhole(t, c, 4, 5, true, true)
}

func TestWholeOfTwoWays(t *testing.T) {
	// Both lead from the first one, one of them to the last.
	c := of(row{load(8), byData(store(16), 0), byData(store(24), 0), store(24)})
	holdWhole(t, c, 0, 3, true, false)
	c = of(row{load(8), byData(store(16), 0), byData(store(24), 0), store(16)})
	holdWhole(t, c, 0, 3, true, false)
	// Both lead to the last one, none from the first.
	c = of(row{load(8), load(16), load(24), byData(store(32), 1, 2)})
	holdWhole(t, c, 0, 3, false, false)
	// One leads away from the first, another one to the last.
	c = of(row{load(8), byData(store(16), 0), load(24), byData(store(32), 2)})
	holdWhole(t, c, 0, 3, false, false)
	// One leads to where the first stands, on to the last.
	c = of(row{load(8), load(16), byData(store(24), 0), store(24)})
	holdWhole(t, c, 1, 3, false, false)
	// It leads beyond the last one.
	c = of(row{load(8), load(16), byData(store(24), 0, 1)})
	holdWhole(t, c, 0, 1, false, false)
}

func TestWholeOfWhatHasNoSteps(t *testing.T) {
	all, one := fence(15, 15), aq(rl(amo(8)))
	c := of(row{one, all, one}, row{one, all, one})
	holdWhole(t, c, 0, 2, true, true)
	holdWhole(t, c, 3, 5, true, true)
	for _, p := range [][2]int{{0, 0}, {2, 2}, {1, 1}, {0, 1}, {1, 2}, {0, 3}, {0, 5}, {2, 3}, {1, 4}, {-1, 0}, {0, 6}, {2, 6}, {-1, 6}, {0, 64}} {
		holdWhole(t, c, p[0], p[1], false, false)
	}
}

func TestWholeOfLongWays(t *testing.T) {
	const many = 200
	for _, ahead := range []row{nil, long(61, stores)} {
		c := of(ahead, long(many, chained))
		from := len(ahead)
		for _, b := range []int{1, 2, 3, 62, 63, 64, 65, 126, 127, 128, 129, 191, 192, 193, many - 1} {
			holdWhole(t, c, from, from+b, true, b == 1)
			holdWhole(t, c, from+b-1, from+b, true, true)
			holdWhole(t, c, from+b/2, from+b, true, b-b/2 == 1)
			holdWhole(t, c, from+b, from+b, false, false)
		}
		for _, gap := range []int{1, 2, 63, 64, 65, 127, 128, many - 1} {
			l := long(many, chained)
			l[gap] = stores(gap)
			broken := of(ahead, l)
			holdWhole(t, broken, from, from+gap, false, false)
			holdWhole(t, broken, from, from+many-1, false, false)
			holdWhole(t, broken, from+gap-1, from+gap, false, false)
			holdWhole(t, broken, from, from+gap-1, gap > 1, gap == 2)
			holdWhole(t, broken, from+gap, from+many-1, gap < many-1, gap == many-2)
		}
	}
	// Two ways, by turns: the even ones lead to even ones.
	c := of(long(many, func(at int) api.Event {
		if at < 2 {
			return stores(at)
		}
		return byData(stores(at), at-2)
	}))
	for b := range many {
		holdWhole(t, c, 0, b, b > 0 && b%2 == 0, b == 2)
		holdWhole(t, c, 1, b, b > 1 && b%2 == 1, b == 3)
	}
}

// holdFull holds whether a candidate is full, and where other harts stand ahead and behind.
func holdFull(t *testing.T, want bool, rows ...row) {
	t.Helper()
	hold := func(want bool, rows ...row) {
		t.Helper()
		c := of(rows...)
		if err := cand.Check(c); err != api.OK {
			t.Fatalf("%+v may not be: %d", c, err)
		}
		if got := ppo.Full(c); got != want {
			t.Errorf("Full(%+v) = %t", c, got)
		}
	}
	hold(want, rows...)
	full, gap := row{store(8), store(8)}, row{store(8), load(8)}
	hold(want, append([]row{full}, rows...)...)
	hold(want, append([]row{{load(8)}, nil}, rows...)...)
	hold(want, append(rows[:len(rows):len(rows)], full, row{load(8)})...)
	hold(false, append([]row{gap}, rows...)...)
	hold(false, append(rows[:len(rows):len(rows)], gap)...)
}

func TestFull(t *testing.T) {
	all := fence(r|w, r|w)
	// Each step holds.
	holdFull(t, true, row{store(8), fence(w, r), load(16), byAddr(load(24), 2), rl(amo(32))})
	holdFull(t, true, row{load(8), all, store(16), all, load(24)}, row{store(8), store(8), store(8)})
	// One alone is missing: the first, one between, the last.
	holdFull(t, false, row{store(8), load(16), byAddr(load(24), 1), rl(amo(32))})
	holdFull(t, false, row{store(8), fence(w, r), load(16), load(24), rl(amo(32))})
	holdFull(t, false, row{store(8), fence(w, r), load(16), byAddr(load(24), 2), amo(32)})
	holdFull(t, false, row{store(8), fence(w, w), load(16)})
	holdFull(t, false, row{load(8), all, store(16), load(24)}, row{store(8), store(8), store(8)})
	// It leads to one behind the next one, not to the next one.
	holdFull(t, false, row{store(8), load(16), store(8)})
	holdFull(t, false, row{load(8), load(16), byData(store(24), 0, 1)})
	holdFull(t, false, row{load(8), all, load(16), load(24), all, load(32)})
}

func TestFullOfFencesAtTheEnds(t *testing.T) {
	all := fence(15, 15)
	for _, ahead := range []row{nil, {all}, {all, all}, {fence(0, 0)}} {
		for _, behind := range []row{nil, {all}, {all, all}, {fence(0, 0)}} {
			in := func(l ...api.Event) row { return append(append(ahead[:len(ahead):len(ahead)], l...), behind...) }
			// None of memory's, one.
			holdFull(t, true, in())
			holdFull(t, true, in(load(8)))
			holdFull(t, true, in(store(8)))
			holdFull(t, true, in(all, all))
			holdFull(t, true, in(store(8), all, load(16)))
			holdFull(t, true, in(store(8), all, fence(0, 0), all, load(16)))
			holdFull(t, false, in(store(8), fence(0, 0), load(16)))
			holdFull(t, false, in(store(8), load(16)))
			// Between two harts there are no steps.
			holdFull(t, true, in(store(8)), in(load(16)), in(store(24)))
			holdFull(t, true, in(store(8)), in(), in(load(16)))
			holdFull(t, false, in(store(8)), in(load(16)), in(store(24), load(32)))
		}
	}
}

func TestFullLooksAtAllHarts(t *testing.T) {
	for gap := range 8 {
		var rows []row
		for range 8 {
			rows = append(rows, row{load(8), fence(r, r), load(16)})
		}
		if !ppo.Full(of(rows...)) {
			t.Errorf("not full: %+v", rows)
		}
		rows[gap][1] = fence(r, w)
		if ppo.Full(of(rows...)) {
			t.Errorf("full: %+v", rows)
		}
	}
}
