package ppo_test

import (
	"slices"
	"testing"

	"fencepost/api"
	"fencepost/cand"
	"fencepost/ppo"
)

// P10.1: Pairs; and all calls of candidates of most events that may be, or that may not be.

// holdPairs holds the pairs of a candidate: two numbers, and so on.
func holdPairs(t *testing.T, c api.Cand, want ...int) {
	t.Helper()
	if err := cand.Check(c); err != api.OK {
		t.Fatalf("%+v may not be: %d", c, err)
	}
	var got []int
	for _, p := range ppo.Pairs(c) {
		got = append(got, p[0], p[1])
	}
	if !slices.Equal(got, want) {
		t.Errorf("Pairs(%+v) = %v, want %v", c, got, want)
	}
}

func TestPairs(t *testing.T) {
	holdPairs(t, of(row{store(8), load(16)}))
	holdPairs(t, of(row{store(8), fence(w, r), load(16)}), 0, 2)
	// By rising a, then b, in each hart; those that two steps lead to are no pairs.
	holdPairs(t, of(
		row{store(8), load(16), store(8), byData(store(16), 0), store(8)},
		nil,
		row{fence(15, 15)},
		row{store(8)},
		row{load(8), fence(r, w), store(16), load(24), fence(15, 15)},
		row{aq(lr(8)), load(16), load(24), rl(sc(8, 0))},
	), 0, 2, 0, 3, 0, 4, 1, 3, 2, 4, 7, 9, 12, 13, 12, 14, 12, 15, 13, 15, 14, 15)
}

func TestPairsOfNone(t *testing.T) {
	for harts := 1; harts <= 8; harts++ {
		holdPairs(t, of(make([]row, harts)...))
		holdPairs(t, api.Cand{First: []api.Cell{{Addr: 8, Value: 1}}, Harts: make([][]api.Event, harts)})
	}
	holdPairs(t, of(row{fence(15, 15)}))
	holdPairs(t, of(row{fence(15, 15), fence(15, 15), store(8), fence(15, 15)}))
	// One event each.
	var rows []row
	for range 8 {
		rows = append(rows, row{aq(rl(amo(8)))})
	}
	holdPairs(t, of(rows...))
}

// long answers a hart's row of so many events, told by their places.
func long(many int, event func(at int) api.Event) row {
	l := make(row, many)
	for at := range l {
		l[at] = event(at)
	}
	return l
}

// stores answers a store at each place's own address.
func stores(at int) api.Event { return store(uint64(at) * 8) }

// chained answers a store that is preserved behind the one just ahead of it alone.
func chained(at int) api.Event {
	if at == 0 {
		return stores(at)
	}
	return byData(stores(at), at-1)
}

func TestPairsOfMostEvents(t *testing.T) {
	const most = api.MaxEvents
	hold := func(c api.Cand, want int, rising bool) {
		t.Helper()
		l := ppo.Pairs(c)
		if len(l) != want || !slices.IsSortedFunc(l, func(a, b [2]int) int { return slices.Compare(a[:], b[:]) }) {
			t.Errorf("%d pairs, want %d, rising", len(l), want)
		}
		if got := ppo.Full(c); got != rising {
			t.Errorf("Full is %t", got)
		}
		if got := ppo.Whole(c, 0, len(c.From)-1); got != rising {
			t.Errorf("Whole is %t", got)
		}
	}
	hold(of(long(most, stores)), 0, false)
	hold(of(long(most, chained)), most-1, true)
	hold(of(long(most, func(int) api.Event { return store(8) })), most*(most-1)/2, true)
	// A fence behind each: all that stand ahead of it wait.
	hold(of(long(most, func(at int) api.Event {
		if at%2 == 1 {
			return fence(w, w)
		}
		return stores(at)
	})[:most-1]), most/2*(most/2-1)/2, true)
	// One more event is too many.
	holdNone(t, of(long(most+1, func(int) api.Event { return store(8) })))
	holdNone(t, of(long(most, func(int) api.Event { return store(8) }), row{store(8)}))
}

// holdNone holds all calls of a candidate that may not be.
func holdNone(t *testing.T, c api.Cand) {
	t.Helper()
	if err := cand.Check(c); err != api.ErrArg {
		t.Fatalf("%+v may be: %d", c, err)
	}
	for _, a := range []int{-1, 0, 1, 2, 3} {
		for _, b := range []int{-1, 0, 1, 2, 3} {
			holdApart(t, c, a, b)
		}
	}
	if l := ppo.Pairs(c); len(l) > 0 {
		t.Errorf("Pairs(%+v) = %v", c, l)
	}
	if ppo.Full(c) {
		t.Errorf("Full(%+v)", c)
	}
}

func TestAllCallsOfCandidatesThatMayNotBe(t *testing.T) {
	c := from(of(row{aq(amo(8)), fence(15, 15), rl(amo(8)), byAddr(load(8), 0)}, row{store(8)}), 3, 4)
	c.First = []api.Cell{{Addr: 8}, {Addr: 16, Value: 1}}
	holdOne(t, c, 0, 2, 1, 4, 5, 6, 7)
	if !ppo.Full(c) || !ppo.Whole(c, 0, 3) {
		t.Fatalf("%+v", c)
	}
	for n, spoil := range []func(c *api.Cand){
		func(c *api.Cand) { c.Harts = nil },
		func(c *api.Cand) { c.Harts = append(c.Harts, make([][]api.Event, 7)...) },
		func(c *api.Cand) { c.Harts = append(c.Harts, c.Harts[0]) },
		func(c *api.Cand) { c.Harts[0], c.Harts[1] = c.Harts[1], c.Harts[0] },
		func(c *api.Cand) { c.Harts[0] = c.Harts[0][:3] },
		func(c *api.Cand) { c.Harts[0][0].Kind = 7 },
		func(c *api.Cand) { c.Harts[0][0].At = 1 },
		func(c *api.Cand) { c.Harts[0][3].Addr = 16 },
		func(c *api.Cand) { c.Harts[0][3].Load = 1 },
		func(c *api.Cand) { c.Harts[0][3].Deps.Addr = []int{3} },
		func(c *api.Cand) { c.Harts[1][0].Aq = true },
		func(c *api.Cand) { c.Harts[1][0].Hart = 0 },
		func(c *api.Cand) { c.From[3] = 3 },
		func(c *api.Cand) { c.From[3] = 5 },
		func(c *api.Cand) { c.From[3] = -2 },
		func(c *api.Cand) { c.From[4] = 0 },
		func(c *api.Cand) { c.From = c.From[:4] },
		func(c *api.Cand) { c.From = append(c.From, -1) },
		func(c *api.Cand) { c.Order = c.Order[:3] },
		func(c *api.Cand) { c.Order[0] = 1 },
		func(c *api.Cand) { c.Order[0] = 2 },
		func(c *api.Cand) { c.Order = append(c.Order, 0) },
		func(c *api.Cand) { c.First[0].Addr = 12 },
		func(c *api.Cand) { c.First[0].Addr = 24 },
	} {
		one := copied(c)
		spoil(&one)
		if cand.Check(one) == api.OK {
			t.Fatalf("spoilt by %d, it may be", n)
		}
		holdNone(t, one)
	}
	holdNone(t, api.Cand{})
	// A fence alone, nothing at all: what may be is full.
	for _, c := range []api.Cand{of(nil), of(row{fence(0, 0)})} {
		c.Order = []int{0}
		holdNone(t, c)
	}
}
