package axiom_test

import (
	"slices"
	"testing"

	"fencepost/api"
	"fencepost/axiom"
)

// P11.1: WhyValue; P11.2: Source.

// holdValue holds a candidate's sources; that it is allowed if each reads from them, and what is told if a number reads from others that it may read from.
func holdValue(t *testing.T, c api.Cand, n int, sources ...int) {
	t.Helper()
	c.From = sources
	holdSources(t, c, sources...)
	hold(t, c, ok())
	for _, other := range everyFrom(slices.Concat(c.Harts...), n) {
		if wrong := from(c, n, other); other != sources[n] {
			hold(t, wrong, not(api.WhyValue, n, sources[n]))
			// What it should read from does not hang on what it reads from.
			holdSources(t, wrong, sources...)
		}
	}
}

func TestSourceIsWhatWasThereAtFirst(t *testing.T) {
	for _, e := range []api.Event{load(8), lr(8), amo(8)} {
		// Another hart's store behind it, by place.
		holdValue(t, in(of(row{e}, row{store(8)}), 0, 1), 0, none, none)
		holdValue(t, in(of(row{store(8)}, row{e}), 1, 0), 1, none, none)
		// Its own behind it, by program order, too.
		holdValue(t, of(row{e, store(8)}), 0, none, none)
		// Two that stand behind.
		holdValue(t, in(of(row{store(8)}, row{e}, row{amo(8)}), 1, 0, 2), 1, none, none, 0)
	}
	// With cells that tell what it is, or that there is none.
	c := of(row{load(8)}, row{store(8)})
	c.First = []api.Cell{{Addr: 0, Value: 4}, {Addr: 16, Value: 5}}
	holdValue(t, c, 0, none, none)
	c.First = []api.Cell{{Addr: 8}}
	holdValue(t, c, 0, none, none)
	c.First = []api.Cell{{Addr: 8, Value: 7}}
	c.Harts[0][0].Load = 7
	hold(t, c, ok())
	hold(t, in(c, 1, 0), not(api.WhyValue, 0, 1))
}

func TestSourceIsAnotherHarts(t *testing.T) {
	for _, e := range []api.Event{load(8), lr(8), amo(8)} {
		for _, s := range []row{{store(8)}, {amo(8)}} {
			holdValue(t, in(of(row{e}, s), 1, 0), 0, 1, none)
			holdValue(t, of(s, row{e}), 1, none, 0)
			// With a write of another Addr between, by place and by program order.
			holdValue(t, of(s, row{store(16), e, store(24)}), 2, none, none, 0, none)
			holdValue(t, in(of(s, row{e}, row{store(16), amo(1<<63 + 8), store(0)}), 0, 2, 3, 4, 1), 1, none, 0, none, none, none)
			// With one that reads there between.
			holdValue(t, in(of(s, row{e}, row{load(8)}), 0, 2, 1), 1, none, 0, 0)
		}
		// An sc.
		holdValue(t, of(row{lr(8), sc(8, 0)}, row{e}), 2, none, none, 1)
	}
}

func TestSourceIsItsOwnHarts(t *testing.T) {
	for _, e := range []api.Event{load(8), lr(8)} {
		// It stands ahead in program order, and has a place below, or above.
		holdValue(t, of(row{store(8), e}), 1, none, 0)
		holdValue(t, in(of(row{store(8), e}), 1, 0), 1, none, 0)
		// Another hart's stands between them by place: ahead of the load, so that it is later; behind it, so that it is not.
		holdValue(t, in(of(row{store(8), e}, row{store(8)}), 0, 2, 1), 1, none, 2, none)
		holdValue(t, in(of(row{store(8), e}, row{store(8)}), 1, 2, 0), 1, none, 0, none)
		// Another hart's has a place below the load's, its own one above it.
		holdValue(t, in(of(row{store(8), e}, row{store(8)}), 2, 1, 0), 1, none, 0, none)
		holdValue(t, in(of(row{store(8), e}, row{store(8)}), 2, 0, 1), 1, none, 0, none)
		// Others behind both.
		holdValue(t, in(of(row{store(8), e}, row{store(8)}), 1, 0, 2), 1, none, 0, none)
		holdValue(t, in(of(row{store(8), e}, row{store(8)}), 0, 1, 2), 1, none, 0, none)
		// The last one of several of its own, both above it.
		holdValue(t, in(of(row{store(8), store(8), e}), 2, 0, 1), 2, none, none, 1)
		holdValue(t, in(of(row{store(8), store(8), e}), 0, 2, 1), 2, none, none, 1)
		// Its own one at another Addr.
		holdValue(t, in(of(row{store(16), e}), 1, 0), 1, none, none)
		holdValue(t, in(of(row{store(8), store(16), e}), 2, 0, 1), 2, none, none, 0)
		// Its own one behind it, in program order.
		holdValue(t, in(of(row{store(8), e, store(8)}), 1, 0, 2), 1, none, 0, none)
		// One ahead of another hart's, at the same place in its row.
		holdValue(t, in(of(row{store(8)}, row{store(24), e}), 2, 1, 0), 2, none, none, none)
	}
	// An amo, and an sc, of its own.
	holdValue(t, of(row{amo(8), load(8)}), 1, none, 0)
	holdValue(t, of(row{amo(8), amo(8)}), 1, none, 0)
	holdValue(t, of(row{lr(8), sc(8, 0), load(8)}), 2, none, none, 1)
	holdValue(t, of(row{lr(8), sc(8, 0), amo(8)}), 2, none, none, 1)
	holdValue(t, of(row{store(8), amo(8)}), 1, none, 0)
}

func TestNoneIsItsOwnSource(t *testing.T) {
	holdValue(t, of(row{amo(8)}), 0, none)
	holdValue(t, of(row{amo(8), amo(8), amo(8)}), 2, none, 0, 1)
	holdValue(t, of(row{amo(8)}, row{amo(8)}, row{amo(8)}), 1, none, 0, 1)
	holdValue(t, in(of(row{amo(8)}, row{amo(8)}, row{amo(8)}), 2, 0, 1), 0, 2, 0, none)
	// An sc reads from nobody, its pair not from it.
	holdValue(t, of(row{lr(8), sc(8, 0)}), 0, none, none)
	holdValue(t, of(row{store(8)}, row{lr(8), sc(8, 0)}), 1, none, 0, none)
	holdValue(t, of(row{lr(8), sc(8, 0), lr(8), sc(8, 2)}), 2, none, none, 1, none)
}

func TestSourceIsTheLastByPlace(t *testing.T) {
	c := of(row{store(8)}, row{store(8)}, row{store(8)}, row{load(8)})
	for _, order := range [][]int{{0, 1, 2}, {0, 2, 1}, {1, 0, 2}, {1, 2, 0}, {2, 0, 1}, {2, 1, 0}} {
		for many := range 4 {
			// The load behind so many of them.
			l := slices.Insert(slices.Clone(order), many, 3)
			want := none
			if many > 0 {
				want = order[many-1]
			}
			holdValue(t, in(c, l...), 3, none, none, none, want)
		}
	}
}

func TestSourcesWhereTheOrderIsBroken(t *testing.T) {
	// What counts is the place: of its own ones that stand ahead the last by place, not by program order; one behind it, which has a place below.
	holdSources(t, in(of(row{store(8), store(8), load(8)}), 2, 1, 0), none, none, 0)
	holdSources(t, in(of(row{store(8), store(8), load(8)}), 1, 2, 0), none, none, 0)
	holdSources(t, in(of(row{store(8), store(8), load(8)}), 1, 0, 2), none, none, 0)
	holdSources(t, in(of(row{load(8), store(8)}), 1, 0), 1, none)
	holdSources(t, in(of(row{store(8), load(8), store(8)}), 2, 1, 0), none, 0, none)
	holdSources(t, in(of(row{store(8), load(8), store(8)}), 0, 2, 1), none, 2, none)
	holdSources(t, in(of(row{lr(8), sc(8, 0)}), 1, 0), 1, none)
	holdSources(t, in(of(row{amo(8), amo(8)}), 1, 0), 1, 0)
	holdSources(t, in(of(row{store(8), amo(8), amo(8)}), 2, 1, 0), none, 0, 0)
	holdSources(t, in(of(row{store(8), amo(8), amo(8)}), 2, 0, 1), none, 0, 1)
	holdSources(t, in(of(row{store(8), fence(w, r), load(8)}), 2, 0), none, none, 0)
}

func TestSourcesOfAll(t *testing.T) {
	c := of(
		row{store(8), fence(15, 15), load(8), amo(16), load(16)},
		nil,
		row{lr(8), sc(8, 0), fence(0, 0), lr(16), load(24)},
		row{store(16), fence(r, w)},
	)
	// Stores and fences read from nobody, not from what stands at 0 either.
	holdSources(t, c, none, none, 0, none, 3, 0, none, none, 3, none, none, none)
	holdSources(t, in(c, 10, 8, 9, 5, 6, 4, 3, 2, 0), none, none, 0, 10, 3, none, none, none, 10, none, none, none)
	c.Harts[3][0].Addr = 0
	holdSources(t, c, none, none, 0, none, 3, 0, none, none, 3, none, none, none)
}

func TestFirstOfSeveralThatReadWrongly(t *testing.T) {
	c := of(row{load(8)}, row{store(8)}, row{load(8)}, row{load(16)}, row{store(16)})
	c = from(c, 0, 1, 2, none, 3, 4)
	// 0, 2 and 3 are wrong, 3 by the first place.
	hold(t, in(c, 3, 4, 0, 1, 2), not(api.WhyValue, 0, none))
	// 0 is right.
	hold(t, in(c, 3, 4, 1, 2, 0), not(api.WhyValue, 2, 1))
	hold(t, in(c, 3, 4, 2, 1, 0), not(api.WhyValue, 3, none))
	hold(t, in(c, 4, 3, 2, 1, 0), ok())
	// Two of one hart.
	c = of(row{store(8)}, row{load(8), load(8)})
	hold(t, c, not(api.WhyValue, 1, 0))
	hold(t, from(c, 1, 0, 2, 0), ok())
	hold(t, in(from(c, 1, 0, 2, 0), 1, 2, 0), not(api.WhyValue, 1, none))
	// The second one alone: two reads of one Addr stay as they are, by rule 2.
	hold(t, from(c, 1, 0), not(api.WhyValue, 2, 0))
	hold(t, from(c, 2, 0), not(api.WhyValue, 1, 0))
}

func TestValuesAreNotLookedAt(t *testing.T) {
	// It loaded what its source stored, but reads from another one that stored as much.
	c := of(row{store(8)}, row{store(8)}, row{load(8)})
	for hart, l := range c.Harts {
		if hart < 2 {
			l[0].Store = 5
		} else {
			l[0].Load = 5
		}
	}
	hold(t, from(c, 2, 0), not(api.WhyValue, 2, 1))
	hold(t, from(c, 2, 1), ok())
	c.First = []api.Cell{{Addr: 8, Value: 5}}
	hold(t, c, not(api.WhyValue, 2, 1))
}

func TestNoSources(t *testing.T) {
	d := dice(4)
	for range 200 {
		c := d.cand(1+d.below(4), 5)
		holdNoSources(t, c)
		for n, e := range slices.Concat(c.Harts...) {
			if got := axiom.Source(c, n); !plainReads(e) && got != none {
				t.Errorf("Source(%s, %d) = %d", told(c), n, got)
			}
		}
	}
}
