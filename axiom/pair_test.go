package axiom_test

import (
	"slices"
	"testing"

	"fencepost/api"
	"fencepost/axiom"
)

// P11.1: WhyPair.

func TestAnotherHartWritesBetween(t *testing.T) {
	for _, e := range []api.Event{store(8), amo(8)} {
		c := of(row{lr(8), sc(8, 0)}, row{e})
		hold(t, in(c, 0, 2, 1), not(api.WhyPair, 0, 2))
		// It stands ahead of both, and is read; or behind both.
		hold(t, in(from(c, 0, 2), 2, 0, 1), ok())
		if e.Kind == api.EvAmo {
			c = from(c, 2, 1)
		}
		hold(t, in(c, 0, 1, 2), ok())
	}
	// An sc.
	c := of(row{lr(8), sc(8, 0)}, row{lr(8), sc(8, 0)})
	hold(t, in(c, 0, 2, 3, 1), not(api.WhyPair, 0, 3))
	hold(t, in(c, 0, 2, 1, 3), not(api.WhyPair, 2, 1))
	hold(t, in(from(c, 2, 1), 0, 1, 2, 3), ok())
	hold(t, in(from(c, 0, 3), 2, 3, 0, 1), ok())
}

func TestAnotherHartDoesElseBetween(t *testing.T) {
	for _, e := range []api.Event{load(8), lr(8), load(16), store(16), amo(16), store(0), amo(1<<63 + 8)} {
		hold(t, in(of(row{lr(8), sc(8, 0)}, row{e}), 0, 2, 1), ok())
	}
	hold(t, in(of(row{lr(8), sc(8, 0)}, row{lr(16), sc(16, 0)}), 0, 2, 3, 1), ok())
	// The hart that writes between writes elsewhere too; no lr and sc, but an lr and a store.
	hold(t, in(of(row{lr(8), sc(8, 0)}, row{store(16), store(8)}), 0, 2, 1, 3), ok())
	hold(t, in(of(row{lr(8), store(8)}, row{store(8)}), 0, 2, 1), ok())
	hold(t, in(of(row{load(8), amo(8)}, row{store(8)}), 0, 1, 2), ok())
}

func TestTheHartItselfWritesBetween(t *testing.T) {
	for _, e := range []api.Event{store(8), amo(8)} {
		c := of(row{lr(8), e, sc(8, 0)}, row{store(8)})
		hold(t, in(c, 0, 1, 2, 3), ok())
		hold(t, in(c, 0, 1, 3, 2), not(api.WhyPair, 0, 3))
	}
	hold(t, in(of(row{lr(8), store(8), sc(8, 0)}, row{store(8)}), 0, 3, 1, 2), not(api.WhyPair, 0, 3))
}

func TestFirstByPlaceThatWritesBetween(t *testing.T) {
	c := of(row{lr(8), sc(8, 0)}, row{store(8)}, row{store(8)})
	hold(t, in(c, 0, 2, 3, 1), not(api.WhyPair, 0, 2))
	hold(t, in(c, 0, 3, 2, 1), not(api.WhyPair, 0, 3))
	hold(t, in(c, 0, 3, 1, 2), not(api.WhyPair, 0, 3))
	hold(t, in(c, 0, 1, 3, 2), ok())
	// Of one hart; behind its own one, one of another Addr, one that reads.
	hold(t, in(of(row{lr(8), sc(8, 0)}, row{store(8), store(8)}), 0, 2, 3, 1), not(api.WhyPair, 0, 2))
	c = of(row{lr(8), store(8), sc(8, 0)}, row{load(8), store(16), store(8)}, row{store(8)})
	hold(t, in(c, 0, 3, 4, 1, 6, 5, 2), not(api.WhyPair, 0, 6))
	hold(t, in(c, 0, 3, 4, 1, 5, 6, 2), not(api.WhyPair, 0, 5))
}

func TestThePairReadsFromAnotherHart(t *testing.T) {
	c := from(of(row{lr(8), sc(8, 0)}, row{store(8)}, row{store(8)}), 0, 2)
	hold(t, in(c, 2, 0, 1, 3), ok())
	// The other one is ahead of what is read, or between.
	hold(t, in(c, 3, 2, 0, 1), ok())
	hold(t, in(c, 2, 0, 3, 1), not(api.WhyPair, 0, 3))
	// Both are one hart's.
	c = from(of(row{store(8), store(8)}, row{lr(8), sc(8, 0)}), 2, 0)
	hold(t, in(c, 0, 2, 3, 1), ok())
	hold(t, in(c, 0, 2, 1, 3), not(api.WhyPair, 2, 1))
	hold(t, in(from(c, 2, 1), 0, 1, 2, 3), ok())
}

func TestThePairReadsFromItsOwnHart(t *testing.T) {
	c := from(of(row{store(8), lr(8), sc(8, 1)}, row{store(8)}), 1, 0)
	hold(t, in(c, 0, 1, 2, 3), ok())
	hold(t, in(c, 3, 0, 1, 2), ok())
	hold(t, in(c, 0, 1, 3, 2), not(api.WhyPair, 1, 3))
	// The pair's place is below that of what it reads: others count from that one's place on.
	hold(t, in(c, 1, 0, 2, 3), ok())
	hold(t, in(c, 1, 3, 0, 2), ok())
	hold(t, in(c, 3, 1, 0, 2), ok())
	hold(t, in(c, 1, 0, 3, 2), not(api.WhyPair, 1, 3))
}

func TestSeveralScs(t *testing.T) {
	// Two of one hart: the second one alone, the first one alone, both.
	c := from(of(row{lr(8), sc(8, 0), lr(8), sc(8, 2)}, row{store(8)}, row{store(8)}), 2, 1)
	hold(t, in(c, 0, 1, 2, 3, 4, 5), ok())
	hold(t, in(c, 0, 1, 2, 4, 3, 5), not(api.WhyPair, 2, 4))
	hold(t, in(c, 0, 4, 1, 2, 3, 5), not(api.WhyPair, 0, 4))
	hold(t, in(c, 0, 4, 1, 2, 5, 3), not(api.WhyPair, 0, 4))
	// Two of two harts: the first one by number, whichever has the lower places.
	c = of(row{lr(8), sc(8, 0)}, row{lr(16), sc(16, 0)}, row{store(8)}, row{store(16)})
	hold(t, in(c, 0, 1, 2, 3, 4, 5), ok())
	hold(t, in(c, 2, 5, 3, 0, 4, 1), not(api.WhyPair, 0, 4))
	hold(t, in(c, 0, 4, 1, 2, 5, 3), not(api.WhyPair, 0, 4))
	hold(t, in(c, 0, 1, 2, 5, 3, 4), not(api.WhyPair, 2, 5))
	// The pair stands further ahead, with others between in the row.
	c = from(of(row{store(8), fence(0, 0), lr(8), load(16), fence(0, 0), sc(8, 2)}, row{store(8)}), 2, 0)
	hold(t, in(c, 0, 2, 3, 5, 6), ok())
	hold(t, in(c, 0, 2, 6, 3, 5), not(api.WhyPair, 2, 6))
}

// holdPair holds what the pair axiom alone tells of a candidate, whatever the others do, and what Judge tells.
func holdPair(t *testing.T, c api.Cand, pair, judged api.Judged) {
	t.Helper()
	hold(t, c, judged)
	if got := plainly(c).pair(); got != pair {
		t.Fatalf("the reference tells of %s: %+v, want %+v", told(c), got, pair)
	}
	if got := axiom.Alone(c)[2]; got != pair {
		t.Errorf("the pair axiom alone tells of %s: %+v, want %+v", told(c), got, pair)
	}
}

func TestWhatThePairReadsHasNoPlaceBelowTheSc(t *testing.T) {
	c := from(of(row{lr(8), sc(8, 0)}, row{store(8)}, row{store(8)}), 0, 2)
	holdPair(t, in(c, 0, 1, 2, 3), not(api.WhyPair, 0, 2), not(api.WhyValue, 0, none))
	holdPair(t, in(c, 0, 1, 3, 2), not(api.WhyPair, 0, 2), not(api.WhyValue, 0, none))
	// Another one stores between, too.
	holdPair(t, in(c, 0, 3, 1, 2), not(api.WhyPair, 0, 2), not(api.WhyValue, 0, none))
	holdPair(t, in(c, 3, 0, 1, 2), not(api.WhyPair, 0, 2), not(api.WhyValue, 0, 3))
	// It is the sc itself; another sc.
	holdPair(t, from(of(row{lr(8), sc(8, 0)}), 0, 1), not(api.WhyPair, 0, 1), not(api.WhyValue, 0, none))
	c = from(of(row{lr(8), sc(8, 0)}, row{lr(8), sc(8, 0)}), 0, 3, 2, 1)
	holdPair(t, in(c, 0, 2, 1, 3), not(api.WhyPair, 0, 3), not(api.WhyValue, 0, none))
	// It is its own hart's: ahead of the pair, between, behind both.
	holdPair(t, in(from(of(row{store(8), lr(8), sc(8, 1)}), 1, 0), 1, 2, 0), not(api.WhyPair, 1, 0), not(api.WhyOrder, 0, 2))
	holdPair(t, in(from(of(row{lr(8), store(8), sc(8, 0)}), 0, 1), 0, 2, 1), not(api.WhyPair, 0, 1), not(api.WhyOrder, 1, 2))
	holdPair(t, from(of(row{lr(8), store(8), sc(8, 0)}), 0, 1), ok(), not(api.WhyValue, 0, none))
	holdPair(t, from(of(row{lr(8), sc(8, 0), store(8)}), 0, 2), not(api.WhyPair, 0, 2), not(api.WhyValue, 0, none))
}

func TestOthersWriteAtPlacesBelowThePair(t *testing.T) {
	// The pair reads what was there at first: any place below the sc's counts.
	c := of(row{lr(8), sc(8, 0)}, row{store(8)}, row{store(8)})
	holdPair(t, in(c, 2, 0, 1, 3), not(api.WhyPair, 0, 2), not(api.WhyValue, 0, 2))
	holdPair(t, in(c, 3, 2, 0, 1), not(api.WhyPair, 0, 3), not(api.WhyValue, 0, 2))
	holdPair(t, in(c, 2, 0, 3, 1), not(api.WhyPair, 0, 2), not(api.WhyValue, 0, 2))
	// The other one stands behind what is read, ahead of the pair.
	holdPair(t, in(from(c, 0, 2), 2, 3, 0, 1), not(api.WhyPair, 0, 3), not(api.WhyValue, 0, 3))
	holdPair(t, in(from(c, 0, 2), 3, 2, 0, 1), ok(), ok())
	c = from(of(row{store(8), lr(8), sc(8, 1)}, row{store(8)}), 1, 0)
	holdPair(t, in(c, 0, 3, 1, 2), not(api.WhyPair, 1, 3), not(api.WhyValue, 1, 3))
	// The hart's own one, which is not read.
	holdPair(t, from(in(c, 3, 0, 1, 2), 1, 3), ok(), not(api.WhyValue, 1, 0))
	holdPair(t, from(in(c, 0, 1, 2, 3), 1, none), ok(), not(api.WhyValue, 1, 0))
}

func TestThePairStandsAboveTheSc(t *testing.T) {
	c := of(row{lr(8), sc(8, 0)}, row{store(8)})
	holdPair(t, in(c, 1, 0, 2), ok(), not(api.WhyOrder, 0, 1))
	holdPair(t, in(c, 1, 2, 0), ok(), not(api.WhyOrder, 0, 1))
	holdPair(t, in(c, 2, 1, 0), not(api.WhyPair, 0, 2), not(api.WhyOrder, 0, 1))
	holdPair(t, in(from(c, 0, 2), 2, 1, 0), ok(), not(api.WhyOrder, 0, 1))
	holdPair(t, in(from(c, 0, 2), 1, 2, 0), not(api.WhyPair, 0, 2), not(api.WhyOrder, 0, 1))
	holdPair(t, in(from(c, 0, 1), 1, 2, 0), not(api.WhyPair, 0, 1), not(api.WhyOrder, 0, 1))
}

func TestWhoStoresBetweenIsNeverRead(t *testing.T) {
	// Wherever the pair axiom is told, the order and the values are as they should be: who is told stands between the pair and its sc, and is not what the pair reads.
	d := dice(5)
	met := 0
	for range 20000 {
		c := d.cand(2+d.below(3), 5)
		j := axiom.Judge(c)
		if j.Why != api.WhyPair {
			continue
		}
		met++
		all := slices.Concat(c.Harts...)
		sc := slices.IndexFunc(all, func(e api.Event) bool {
			return e.Kind == api.EvSC && e.Hart == all[j.A].Hart && e.Pair == all[j.A].At
		})
		at := func(n int) int { return slices.Index(c.Order, n) }
		if sc < 0 || at(j.B) <= at(j.A) || at(j.B) >= at(sc) || c.From[j.A] == j.B || all[j.B].Hart == all[j.A].Hart {
			t.Errorf("Judge(%s) = %+v", told(c), j)
		}
	}
	if met < 50 {
		t.Errorf("%d alone", met)
	}
}
