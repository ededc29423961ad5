package axiom_test

import (
	"slices"
	"testing"

	"fencepost/api"
	"fencepost/axiom"
	"fencepost/cand"
)

// All calls of candidates of most events that may be.

const most = api.MaxEvents

// long answers a hart's row of so many events, told by their places.
func long(many int, event func(at int) api.Event) row {
	l := make(row, many)
	for at := range l {
		l[at] = event(at)
	}
	return l
}

// same answers the same event for all places.
func same(e api.Event) func(at int) api.Event {
	return func(int) api.Event { return e }
}

// holdMost holds what is told of a candidate of most events; and that it may not be with one more.
func holdMost(t *testing.T, c api.Cand, want api.Judged, line string) {
	t.Helper()
	if err := cand.Check(c); err != api.OK || len(c.From) != most {
		t.Fatalf("%d events: %d", len(c.From), err)
	}
	j := axiom.Judge(c)
	if j != want {
		t.Errorf("Judge = %+v, want %+v", j, want)
	}
	if got := axiom.Ok(c); got != want.OK {
		t.Errorf("Ok is %t", got)
	}
	if got := axiom.Line(j); got != line {
		t.Errorf("Line = %q, want %q", got, line)
	}
}

// holdSource holds the source of some numbers, two and two.
func holdSource(t *testing.T, c api.Cand, numbers ...int) {
	t.Helper()
	for ; len(numbers) > 0; numbers = numbers[2:] {
		if got := axiom.Source(c, numbers[0]); got != numbers[1] {
			t.Errorf("Source of %d is %d, want %d", numbers[0], got, numbers[1])
		}
	}
	for _, n := range noNumbers(len(c.From)) {
		if got := axiom.Source(c, n); got != none {
			t.Errorf("Source of %d is %d", n, got)
		}
	}
}

func TestMostEventsThatNothingHolds(t *testing.T) {
	c := of(long(most, func(at int) api.Event { return store(uint64(at) * 8) }))
	holdMost(t, c, ok(), "ok")
	slices.Reverse(c.Order)
	holdMost(t, c, ok(), "ok")
	holdSource(t, c, 0, none, most-1, none)
	// Fences alone.
	c = of(long(most, same(fence(15, 15))))
	holdMost(t, c, ok(), "ok")
	holdSource(t, c, 0, none, most-1, none)
	// One more is too many.
	c = of(long(most+1, same(fence(15, 15))))
	holdNone(t, c)
	holdNone(t, of(long(most, same(store(8))), row{store(8)}))
}

func TestMostEventsInOrder(t *testing.T) {
	c := of(long(most, same(store(8))))
	holdMost(t, c, ok(), "ok")
	c.Order[most-2], c.Order[most-1] = most-1, most-2
	holdMost(t, c, not(api.WhyOrder, most-2, most-1), "order 4094 4095")
	slices.Reverse(c.Order)
	holdMost(t, c, not(api.WhyOrder, 0, 1), "order 0 1")
}

func TestMostEventsThatRead(t *testing.T) {
	// Each amo reads from the one ahead of it, of eight harts by turns.
	rows := make([]row, 8)
	for hart := range rows {
		rows[hart] = long(most/8, same(amo(8)))
	}
	c := of(rows...)
	c.Order = nil
	for at := range most / 8 {
		for hart := range 8 {
			c.Order = append(c.Order, hart*most/8+at)
		}
	}
	for place, n := range c.Order[1:] {
		c.From[n] = c.Order[place]
	}
	holdMost(t, c, ok(), "ok")
	holdSource(t, c, 0, none, 1, 7*most/8, most-1, 7*most/8-1, most/8, 0)
	last := c.From[most-1]
	c.From[most-1] = none
	holdMost(t, c, not(api.WhyValue, most-1, last), "value 4095 3583")
	c.From[0] = 1
	holdMost(t, c, not(api.WhyValue, 0, none), "value 0 -1")
}

func TestMostEventsOfPairs(t *testing.T) {
	// Scs of an address each, with places above those of all lrs.
	const many = most/2 - 1
	c := of(long(2*many, func(at int) api.Event {
		addr := uint64(at/2) * 8
		if at%2 == 0 {
			return lr(addr)
		}
		return sc(addr, at-1)
	}), row{store(0), store(8 * (many - 1))})
	c.Order = nil
	for _, one := range [][2]int{{0, 2 * many}, {1, 2 * many}} {
		for n := one[0]; n < one[1]; n += 2 {
			c.Order = append(c.Order, n)
		}
	}
	c.Order = append(c.Order, 2*many, 2*many+1)
	holdMost(t, c, ok(), "ok")
	holdSource(t, c, 0, none, 2*many-2, none)
	// The last one's is stored to just ahead of it.
	c.Order = slices.Delete(c.Order, most-1, most)
	c.Order = slices.Insert(c.Order, 2*many-1, 2*many+1)
	holdMost(t, c, not(api.WhyPair, 2*many-2, 2*many+1), "pair 4092 4095")
}
