package inter_test

import (
	"math"
	"slices"
	"testing"

	"fencepost/api"
	"fencepost/cand"
	"fencepost/inter"
)

// All calls at the limits.

const most = api.MaxEvents

// long answers a hart's row of so many events, told by their places.
func long(many int, event func(at int) api.Event) row {
	l := make(row, many)
	for at := range l {
		l[at] = event(at)
	}
	return l
}

func TestPlainOfMostEvents(t *testing.T) {
	plain := func(c api.Cand, want bool) {
		t.Helper()
		may(t, c)
		if got := inter.Plain(c); got != want || len(c.From) != most {
			t.Errorf("of %d events: %t", len(c.From), got)
		}
	}
	// Of one hart, each elsewhere.
	c := of(long(most, func(at int) api.Event { return store(8*uint64(at), 1) }))
	plain(c, true)
	c.Order[most-1], c.Order[most-2] = c.Order[most-2], c.Order[most-1]
	plain(c, false)
	slices.Reverse(c.Order)
	plain(c, false)
	// Of eight harts, each reads from the one ahead of it.
	rows := make([]row, 8)
	for hart := range rows {
		rows[hart] = long(most/8, func(int) api.Event { return amo(8, 0, 0) })
	}
	c = of(rows...)
	c.Order = nil
	for at := range most / 8 {
		for hart := range 8 {
			c.Order = append(c.Order, hart*most/8+at)
		}
	}
	for place, n := range c.Order[1:] {
		c.From[n] = c.Order[place]
	}
	plain(c, true)
	c.From[c.Order[most-1]] = c.Order[most-3]
	plain(c, false)
	// One more may not be.
	c = of(long(most+1, func(int) api.Event { return fence() }))
	if inter.Plain(c) {
		t.Error("too many events are plain")
	}
}

func TestSharedOfMostEvents(t *testing.T) {
	// Each hangs on some ahead of it; every other one is gone.
	event := func(at int) api.Event {
		e := load(8+8*uint64(at%2), 0)
		if at > 9 {
			e.Deps = api.Deps{Addr: on(at-9, at-8, at-1), Way: on(0, 1)}
		}
		return e
	}
	c := may(t, of(long(most, event)))
	want := of(long(most/2, func(at int) api.Event {
		e := load(16, 0)
		if at > 4 {
			e.Deps = api.Deps{Addr: on(at - 4), Way: on(0)}
		}
		return e
	}))
	if got := inter.Shared(c, 16, 24); !cand.Same(got, want) {
		t.Errorf("%s", tell(got))
	}
	if got := inter.Shared(c, 0, math.MaxUint64); !cand.Same(got, c) {
		t.Error("all is not the same")
	}
	if got := inter.Shared(c, 24, 8); !cand.Same(got, of(nil)) {
		t.Errorf("%s", tell(got))
	}
	c = of(long(most, func(int) api.Event { return fence() }))
	if got := inter.Shared(c, 0, 0); !cand.Same(got, c) {
		t.Error("fences did not stay")
	}
	c = of(long(most+1, func(int) api.Event { return store(8, 1) }))
	if got := inter.Shared(c, 0, 0); !cand.Same(got, c) {
		t.Error("one that may not be was cut")
	}
}

func TestDoOfMostHartsStepsAndWords(t *testing.T) {
	// A hart at the end of most words, at the highest Base; eight of them.
	m := api.Image{Base: 1<<31 - 4, Words: make([]uint32, api.MaxCode)}
	copy(m.Words[api.MaxCode-4:], words(t, "amoadd.d x1, x5, (x6)", "addi x9, x9, -1", "bne x9, x0, -8", "ebreak"))
	for range api.MaxHarts {
		h := api.Hart{PC: m.Base + 4*(api.MaxCode-4)}
		h.X[5], h.X[6], h.X[9] = 1, math.MaxUint64-7, most/api.MaxHarts
		m.Start = append(m.Start, h)
	}
	w := api.Weave{Harts: slices.Repeat(on(-1, 10, 3, 4, 0, 14, 9, 5), api.MaxSteps/8)}
	got, err := inter.Do(m, w)
	if err != api.OK || len(got.Cand.From) != most || len(got.Memory) != 1 || got.Memory[0] != (api.Cell{Addr: math.MaxUint64 - 7, Value: most}) {
		t.Fatalf("%d: %d events, memory %v", err, len(got.Cand.From), got.Memory)
	}
	for number, x := range got.Traces {
		if x.End.End != api.EndBreak || x.Steps != 3*most/api.MaxHarts+1 {
			t.Errorf("hart %d: %d steps, end %d", number, x.Steps, x.End.End)
		}
	}
	holdGood(t, got)
	if turns, is := inter.Turns(m, got.Cand); !is || len(turns) != 3*most-2*api.MaxHarts {
		t.Errorf("%d turns, %t", len(turns), is)
	}
	if got := inter.Shared(got.Cand, math.MaxUint64-7, math.MaxUint64); len(got.From) != most {
		t.Errorf("%d stayed", len(got.From))
	}
}

func TestDoOfManyCells(t *testing.T) {
	m := image(t, lines{"ld x1, 0(x6)", "sd x0, 0(x6)", "sd x5, 0(x7)"})
	m.Start[0].X[6], m.Start[0].X[7] = 8*99999, 8*200001
	w := weave(0, 0, 0)
	for place := range 200000 {
		w.First = append(w.First, api.Cell{Addr: 8 * uint64(place), Value: uint64(place % 3)})
	}
	got, err := inter.Do(m, w)
	if err != api.OK || !slices.Equal(got.Cand.First, w.First) || len(got.Memory) != 200000-66667+1 {
		t.Fatalf("%d: %d cells", err, len(got.Memory))
	}
	if !slices.Equal(got.Memory, cand.Last(got.Cand)) {
		t.Error("memory is not what was stored last")
	}
}

func TestDoOfALongWay(t *testing.T) {
	// Each load hangs on all ahead of it, by the way.
	m := image(t, lines{"ld x1, 0(x6)", "bne x1, x0, 4", "jal x0, -8"})
	got, err := inter.Do(m, weave(make([]int, 3*most/2)...))
	if err != api.OK || len(got.Cand.From) != most/2 {
		t.Fatalf("%d: %d events", err, len(got.Cand.From))
	}
	if e := got.Cand.Harts[0][most/2-1]; len(e.Deps.Way) != most/2-1 {
		t.Errorf("it hangs on %d", len(e.Deps.Way))
	}
	turns, is := inter.Turns(m, got.Cand)
	if !is || len(turns) != 3*most/2-2 {
		t.Errorf("%d turns, %t", len(turns), is)
	}
}
