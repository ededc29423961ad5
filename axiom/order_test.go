package axiom_test

import (
	"slices"
	"testing"

	"fencepost/api"
	"fencepost/axiom"
	"fencepost/ppo"
)

// P11.1: WhyOrder.

func TestOrderByEachRule(t *testing.T) {
	for _, x := range []struct {
		rule int
		c    api.Cand
		a, b int
		// The same order, where the rule does not hold.
		free api.Cand
	}{
		{1, in(of(row{store(8), store(8)}), 1, 0), 0, 1, in(of(row{store(8), store(16)}), 1, 0)},
		{1, in(of(row{load(8), store(8)}), 1, 0), 0, 1, in(of(row{load(8), store(16)}), 1, 0)},
		{1, in(of(row{load(8), amo(8)}), 1, 0), 0, 1, in(of(row{load(8), amo(16)}), 1, 0)},
		{
			2, in(from(of(row{load(8), load(8)}, row{store(8)}), 0, 2), 1, 2, 0), 0, 1,
			in(from(of(row{load(8), load(8)}, row{store(8)}), 0, 2, 1, 2), 2, 1, 0),
		},
		{
			2, in(from(of(row{load(8), load(8)}, row{store(8)}), 0, 2), 1, 2, 0), 0, 1,
			in(from(of(row{load(8), load(16)}, row{store(8)}), 0, 2), 1, 2, 0),
		},
		{
			3, in(from(of(row{lr(8), sc(8, 0), load(8)}), 2, 1), 2, 0, 1), 1, 2,
			in(from(of(row{lr(8), store(8), load(8)}), 2, 1), 2, 0, 1),
		},
		{3, in(from(of(row{amo(8), load(8)}), 1, 0), 1, 0), 0, 1, in(from(of(row{store(8), load(8)}), 1, 0), 1, 0)},
		{4, in(of(row{store(8), fence(w, r), load(16)}), 2, 0), 0, 2, in(of(row{store(8), fence(r|w, w), load(16)}), 2, 0)},
		{4, in(of(row{load(8), fence(r, r), load(16)}), 2, 0), 0, 2, in(of(row{load(8), fence(w, r|w), load(16)}), 2, 0)},
		{5, in(of(row{aq(lr(8)), load(16)}), 1, 0), 0, 1, in(of(row{rl(lr(8)), load(16)}), 1, 0)},
		{6, in(of(row{load(8), rl(amo(16))}), 1, 0), 0, 1, in(of(row{load(8), aq(amo(16))}), 1, 0)},
		{7, in(of(row{rl(lr(8)), aq(lr(16))}), 1, 0), 0, 1, in(of(row{rl(lr(8)), lr(16)}), 1, 0)},
		{8, in(of(row{lr(8), sc(8, 0)}), 1, 0), 0, 1, in(of(row{lr(8), store(16)}), 1, 0)},
		{9, in(of(row{load(8), byAddr(load(16), 0)}), 1, 0), 0, 1, in(of(row{load(8), byWay(load(16), 0)}), 1, 0)},
		{10, in(of(row{load(8), byData(store(16), 0)}), 1, 0), 0, 1, in(of(row{load(8), store(16)}), 1, 0)},
		{11, in(of(row{load(8), byWay(store(16), 0)}), 1, 0), 0, 1, in(of(row{load(8), byWay(load(16), 0)}), 1, 0)},
		{
			12, in(from(of(row{load(8), byData(store(16), 0), load(16)}), 2, 1), 2, 0, 1), 0, 2,
			in(from(of(row{load(8), byWay(store(16), 0), load(16)}), 2, 1), 2, 0, 1),
		},
		{
			13, in(of(row{load(8), byAddr(load(24), 0), store(16)}), 2, 0, 1), 0, 2,
			in(of(row{load(8), byWay(load(24), 0), store(16)}), 2, 0, 1),
		},
	} {
		if !ppo.Holds(x.c, x.a, x.b, x.rule) || ppo.Holds(x.free, x.a, x.b, x.rule) {
			t.Fatalf("rule %d of %s, not of %s", x.rule, told(x.c), told(x.free))
		}
		hold(t, x.c, not(api.WhyOrder, x.a, x.b))
		hold(t, x.free, ok())
	}
}

func TestOrderAsItIsPreserved(t *testing.T) {
	// The rows of above, as they stand.
	for _, c := range []api.Cand{
		of(row{store(8), store(8)}),
		of(row{load(8), store(8)}),
		of(row{load(8), load(8)}),
		in(from(of(row{load(8), load(8)}, row{store(8)}), 1, 2), 0, 2, 1),
		from(of(row{lr(8), sc(8, 0), load(8)}), 2, 1),
		from(of(row{amo(8), load(8)}), 1, 0),
		of(row{store(8), fence(w, r), load(16)}),
		of(row{aq(lr(8)), load(16)}),
		of(row{load(8), rl(amo(16))}),
		of(row{rl(lr(8)), aq(lr(16))}),
		of(row{lr(8), sc(8, 0)}),
		of(row{load(8), byAddr(load(16), 0)}),
		of(row{load(8), byData(store(16), 0)}),
		of(row{load(8), byWay(store(16), 0)}),
		from(of(row{load(8), byData(store(16), 0), load(16)}), 2, 1),
		in(from(of(row{load(8), byData(store(16), 0), load(16)}), 2, 1), 0, 2, 1),
		of(row{load(8), byAddr(load(24), 0), store(16)}),
	} {
		hold(t, c, ok())
	}
}

func TestFirstOfSeveralPairs(t *testing.T) {
	// Three that are preserved with each other: 0, 2, 4.
	c := of(row{load(8), fence(r, r), load(16), fence(r, r), load(24)})
	for _, x := range []struct {
		order []int
		want  api.Judged
	}{
		{[]int{0, 2, 4}, ok()},
		{[]int{4, 2, 0}, not(api.WhyOrder, 0, 2)},
		{[]int{2, 0, 4}, not(api.WhyOrder, 0, 2)},
		{[]int{2, 4, 0}, not(api.WhyOrder, 0, 2)},
		{[]int{4, 0, 2}, not(api.WhyOrder, 0, 4)},
		{[]int{0, 4, 2}, not(api.WhyOrder, 2, 4)},
	} {
		hold(t, in(c, x.order...), x.want)
	}
	// By a first: 0 3 and 1 2; then by b: 0 1 and 0 3.
	c = of(row{load(8), load(16), byData(store(24), 1), byData(store(32), 0)})
	hold(t, in(c, 3, 0, 2, 1), not(api.WhyOrder, 0, 3))
	hold(t, in(c, 2, 1, 3, 0), not(api.WhyOrder, 0, 3))
	hold(t, in(c, 2, 1, 0, 3), not(api.WhyOrder, 1, 2))
	hold(t, in(c, 3, 1, 0, 2), not(api.WhyOrder, 0, 3))
	c = of(row{load(8), byAddr(load(16), 0), load(24), byData(store(32), 0)})
	hold(t, in(c, 3, 1, 0, 2), not(api.WhyOrder, 0, 1))
	hold(t, in(c, 3, 0, 1, 2), not(api.WhyOrder, 0, 3))
}

func TestOrderOfSeveralHarts(t *testing.T) {
	c := of(row{store(8), store(8)}, row{load(16), store(24)}, row{store(16), store(16)}, row{store(32), store(32)})
	hold(t, c, ok())
	// Two break it: the first one by number is told, whichever has the lower places.
	hold(t, in(c, 1, 0, 2, 3, 5, 4, 6, 7), not(api.WhyOrder, 0, 1))
	hold(t, in(c, 5, 4, 2, 3, 1, 0, 6, 7), not(api.WhyOrder, 0, 1))
	hold(t, in(c, 7, 6, 3, 2, 5, 4, 0, 1), not(api.WhyOrder, 4, 5))
	// The last one alone, a hart that may be turned about.
	hold(t, in(c, 0, 1, 3, 2, 4, 5, 7, 6), not(api.WhyOrder, 6, 7))
	hold(t, in(c, 0, 1, 3, 2, 4, 5, 6, 7), ok())
	hold(t, in(from(c, 2, 5), 3, 4, 5, 2, 0, 1, 6, 7), ok())
}

func TestOrderLooksAtPairsAlone(t *testing.T) {
	// 0 leads to 2 by two steps, no rule holds of both: one of the steps is told.
	c := of(row{load(8), byData(store(16), 0), store(16)})
	hold(t, in(c, 2, 0, 1), not(api.WhyOrder, 1, 2))
	hold(t, in(c, 1, 2, 0), not(api.WhyOrder, 0, 1))
	hold(t, in(c, 2, 1, 0), not(api.WhyOrder, 0, 1))
	hold(t, in(c, 0, 1, 2), ok())
	// Of two harts nothing is preserved.
	c = from(of(row{store(8)}, row{load(8)}), 1, 0)
	hold(t, in(c, 0, 1), ok())
	c = of(row{store(8)}, row{store(8)})
	hold(t, in(c, 0, 1), ok())
	hold(t, in(c, 1, 0), ok())
}

func TestOrderIsToldJustWhereAPairIsBroken(t *testing.T) {
	d := dice(3)
	for range 1500 {
		c := d.cand(1+d.below(3), 5)
		place := make([]int, len(c.From))
		for at, n := range c.Order {
			place[n] = at
		}
		broken := slices.DeleteFunc(ppo.Pairs(c), func(p [2]int) bool { return place[p[0]] < place[p[1]] })
		j := axiom.Judge(c)
		if (j.Why == api.WhyOrder) != (len(broken) > 0) {
			t.Errorf("Judge(%s) = %+v, broken are %v", told(c), j, broken)
		}
		if len(broken) > 0 && j != not(api.WhyOrder, broken[0][0], broken[0][1]) {
			t.Errorf("Judge(%s) = %+v, broken are %v", told(c), j, broken)
		}
	}
}
