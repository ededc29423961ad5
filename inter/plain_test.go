package inter_test

import (
	"math"
	"slices"
	"testing"

	"fencepost/api"
	"fencepost/inter"
)

// P12.2: Plain

// holdPlain holds whether a candidate that may be is plain.
func holdPlain(t *testing.T, c api.Cand, want bool) {
	t.Helper()
	may(t, c)
	if plainPlain(c) != want {
		t.Fatalf("the reference tells otherwise than %t of %s", want, tell(c))
	}
	if got := inter.Plain(c); got != want {
		t.Errorf("Plain(%s) = %t", tell(c), got)
	}
}

func TestPlain(t *testing.T) {
	holdPlain(t, of(nil), true)
	holdPlain(t, of(make([]row, 8)...), true)
	holdPlain(t, of(row{fence()}, row{fence(), fence()}), true)
	holdPlain(t, of(row{store(8, 1)}), true)
	holdPlain(t, of(row{store(8, 0), load(16, 0)}, row{store(16, 1), load(8, 0)}), false)
	holdPlain(t, from(of(row{store(8, 1), load(16, 0)}, row{store(16, 1), load(8, 1)}), 3, 0), true)
	holdPlain(t, in(from(of(row{store(8, 1), load(16, 1)}, row{store(16, 1), load(8, 1)}), 1, 2, 3, 0), 0, 2, 1, 3), true)
	holdPlain(t, in(from(of(row{store(8, 1), load(16, 1)}, row{store(16, 1), load(8, 1)}), 1, 2, 3, 0), 2, 0, 3, 1), true)
}

func TestPlainOfEventsInAnotherOrder(t *testing.T) {
	// Elsewhere in Order than program order has them, whatever they are, and wherever.
	for _, c := range []api.Cand{
		of(row{store(8, 1), store(16, 1)}),
		of(row{load(8, 0), load(16, 0)}),
		of(row{load(8, 0), load(8, 0)}),
		of(row{load(8, 0), store(16, 1)}),
		of(row{store(8, 1), load(16, 0)}),
		of(row{lr(8, 0), load(16, 0)}),
		of(row{amo(8, 0, 0), amo(16, 0, 0)}),
	} {
		holdPlain(t, c, true)
		holdPlain(t, in(c, 1, 0), false)
	}
	holdPlain(t, in(of(row{store(8, 1), fence(), store(16, 1)}), 2, 0), false)
	holdPlain(t, in(of(row{lr(8, 0), sc(8, 1, 0)}), 1, 0), false)
	// Of three, of harts behind others, with others between.
	c := of(row{load(8, 0), load(16, 0), load(24, 0)}, row{store(32, 1), store(40, 1), store(48, 1)})
	for order := range orders(c.Order) {
		holdPlain(t, in(c, order...), inOrder(order, 0, 1, 2) && inOrder(order, 3, 4, 5))
	}
}

// inOrder tells whether numbers stand one behind the other.
func inOrder(order []int, numbers ...int) bool {
	last := -1
	for _, n := range numbers {
		place := slices.Index(order, n)
		if place < last {
			return false
		}
		last = place
	}
	return true
}

// orders goes through all orders of numbers.
func orders(l []int) func(yield func([]int) bool) {
	return func(yield func([]int) bool) {
		var more func(order, left []int) bool
		more = func(order, left []int) bool {
			if len(left) == 0 {
				return yield(slices.Clone(order))
			}
			for place, n := range left {
				if !more(append(slices.Clone(order), n), slices.Delete(slices.Clone(left), place, place+1)) {
					return false
				}
			}
			return true
		}
		more(nil, l)
	}
}

func TestPlainOfWhoIsReadFrom(t *testing.T) {
	// Each that reads, of two harts that stored there, and of none; all store 0.
	for _, e := range []api.Event{load(8, 0), lr(8, 0), amo(8, 0, 0)} {
		c := of(row{store(8, 0)}, row{store(8, 0), store(16, 0)}, row{e})
		// Numbers: stores 0, 1 at 8; it is 3.
		for order := range orders(c.Order) {
			if !inOrder(order, 1, 2) {
				continue
			}
			for _, source := range on(-1, 0, 1) {
				want := -1
				for _, n := range order[:slices.Index(order, 3)] {
					if n < 2 {
						want = n
					}
				}
				holdPlain(t, from(in(c, order...), 3, source), source == want)
			}
		}
	}
	// From the hart itself: the last one, an earlier one, one behind, one of first.
	c := of(row{store(8, 1), store(8, 1), load(8, 1), store(8, 1)})
	holdPlain(t, from(c, 2, 1), true)
	holdPlain(t, from(c, 2, 0), false)
	holdPlain(t, from(c, 2, 3), false)
	holdPlain(t, with(from(c, 2, -1), 8, 1), false)
	// From the first, where another hart stored since, or behind.
	c = with(of(row{load(8, 1)}, row{store(8, 1)}), 8, 1)
	holdPlain(t, c, true)
	holdPlain(t, from(c, 0, 1), false)
	holdPlain(t, in(c, 1, 0), false)
	holdPlain(t, from(in(c, 1, 0), 0, 1), true)
	// Not what is stored elsewhere; not what only reads.
	holdPlain(t, from(of(row{store(8, 1), store(16, 1), load(8, 1)}), 2, 0), true)
	holdPlain(t, from(of(row{store(8, 1), load(8, 1), lr(8, 1), fence(), load(8, 1)}), 1, 0, 2, 0, 4, 0), true)
	holdPlain(t, of(row{load(8, 0), lr(8, 0), load(8, 0)}), true)
	// An amo reads from the one ahead of it, and is read from.
	c = from(of(row{store(8, 1), amo(8, 1, 2), amo(8, 2, 2), load(8, 2)}), 1, 0, 2, 1, 3, 2)
	holdPlain(t, c, true)
	holdPlain(t, from(c, 3, 1), false)
	holdPlain(t, from(of(row{amo(8, 0, 0)}, row{amo(8, 0, 0)}), 0, 1), false)
	holdPlain(t, from(of(row{amo(8, 0, 0)}, row{amo(8, 0, 0)}), 1, 0), true)
	holdPlain(t, of(row{amo(8, 0, 0)}, row{amo(8, 0, 0)}), false)
	// An sc is read from, but reads not.
	holdPlain(t, from(of(row{lr(8, 0), sc(8, 3, 0), load(8, 3)}), 2, 1), true)
	holdPlain(t, from(of(row{store(8, 3), lr(8, 3), sc(8, 3, 1), load(8, 3)}), 1, 0, 3, 0), false)
	holdPlain(t, from(of(row{store(8, 3), lr(8, 3), sc(8, 3, 1), load(8, 3)}), 1, 0, 3, 2), true)
	// At edges of addresses, and at number 0.
	for _, addr := range []uint64{0, 1 << 63, math.MaxUint64 - 7} {
		holdPlain(t, from(of(row{store(addr, 0), load(addr, 0)}), 1, 0), true)
		holdPlain(t, of(row{store(addr, 0), load(addr, 0)}), false)
	}
}

func TestPlainNeedNotBeAllowed(t *testing.T) {
	// Another hart stores between an lr and its sc.
	c := in(of(row{lr(8, 0), sc(8, 1, 0)}, row{store(8, 2)}), 0, 2, 1)
	holdPlain(t, c, true)
}

func TestPlainOfOneThatMayNotBe(t *testing.T) {
	for name, c := range badCands() {
		if got := inter.Plain(c); got != (name == "good") {
			t.Errorf("%s: %t", name, got)
		}
	}
}

func TestPlainAtRandom(t *testing.T) {
	d := dice(5)
	for range 4000 {
		c := d.cand(1+d.below(5), pick(&d, 2, 4, 8), 1)
		holdPlain(t, c, plainPlain(c))
	}
}
