package inter_test

import (
	"math"
	"slices"
	"testing"

	"fencepost/api"
	"fencepost/cand"
	"fencepost/inter"
)

// P12.2: Shared

// holdShared holds what a candidate is, cut to a range.
func holdShared(t *testing.T, c api.Cand, from, to uint64, want api.Cand) {
	t.Helper()
	may(t, c)
	if plain := plainShared(c, from, to); tell(plain) != tell(want) {
		t.Fatalf("the reference tells of %s, from %d to %d:\n%s, want %s", tell(c), from, to, tell(plain), tell(want))
	}
	got := inter.Shared(c, from, to)
	if tell(got) != tell(want) || !cand.Same(got, want) {
		t.Errorf("Shared(%s, %d, %d)\n= %s,\nwant %s", tell(c), from, to, tell(got), tell(want))
	}
	if err := cand.Check(got); err != api.OK {
		t.Errorf("Shared(%s, %d, %d) = %s may not be", tell(c), from, to, tell(got))
	}
}

// some answers a candidate with something of each at 8, 16, 24: what is at 16 is all by itself.
func some() api.Cand {
	a := row{
		store(8, 1),
		lr(16, 2),
		hangs(load(24, 4), on(1), nil, on(1)),
		fence(),
		hangs(sc(16, 3, 1), on(2), on(1, 2), on(1, 2)),
		hangs(amo(16, 5, 6), on(0, 1, 2, 3, 4), on(0, 2, 3), on(2)),
		hangs(store(24, 9), on(5), on(2, 5), on(0, 1, 5)),
	}
	b := row{fence(), hangs(amo(16, 3, 5), on(0), nil, nil), hangs(load(8, 1), on(1), nil, nil)}
	return with(in(from(of(a, nil, b), 5, 8, 8, 4, 9, 0), 0, 9, 1, 2, 4, 8, 5, 6), 0, 1, 16, 2, 24, 4)
}

func TestShared(t *testing.T) {
	a := row{
		lr(16, 2),
		fence(),
		hangs(sc(16, 3, 0), nil, on(0), on(0)),
		hangs(amo(16, 5, 6), on(0, 1, 2), on(1), nil),
	}
	b := row{fence(), hangs(amo(16, 3, 5), on(0), nil, nil)}
	want := with(in(from(of(a, nil, b), 3, 5, 5, 2), 0, 2, 5, 3), 16, 2)
	holdShared(t, some(), 16, 24, want)
	// Ends that are nobody's Addr.
	holdShared(t, some(), 9, 17, want)
	holdShared(t, some(), 15, 23, want)
	// At 8 alone, at 24 alone: pairs are gone, of both of which nothing is left.
	want = in(from(of(row{store(8, 1), fence()}, nil, row{fence(), load(8, 1)}), 3, 0), 0, 3)
	holdShared(t, some(), 8, 16, want)
	want = with(in(of(row{load(24, 4), fence(), hangs(store(24, 9), nil, on(0), nil)}, nil, row{fence()}), 0, 2), 24, 4)
	holdShared(t, some(), 24, 32, want)
	holdShared(t, some(), 24, math.MaxUint64, want)
}

func TestSharedOfARange(t *testing.T) {
	fences := in(of(row{fence()}, nil, row{fence()}))
	// Nothing: from and to are one, from is above to, nobody is there.
	for _, r := range [][2]uint64{{0, 0}, {8, 8}, {16, 16}, {math.MaxUint64, math.MaxUint64}, {24, 16}, {32, 0}, {math.MaxUint64, 0}, {16, 8}, {9, 16}, {1, 8}, {25, math.MaxUint64}, {32, 40}, {17, 24}} {
		holdShared(t, some(), r[0], r[1], fences)
	}
	// What memory has at first stays by itself.
	holdShared(t, some(), 0, 8, with(fences, 0, 1))
	holdShared(t, some(), 0, 1, with(fences, 0, 1))
	// All.
	all := some()
	holdShared(t, some(), 0, math.MaxUint64, all)
	holdShared(t, some(), 0, 25, all)
	holdShared(t, some(), 0, 32, all)
	all.First = all.First[1:]
	holdShared(t, some(), 1, 25, all)
	holdShared(t, some(), 8, 25, all)
	// The lower end is in it, the upper one is not; the highest address there is.
	high := uint64(math.MaxUint64 - 7)
	c := with(of(row{load(0, 1), load(high, 2), load(1<<63, 0)}), 0, 1, high, 2)
	holdShared(t, c, 0, high, with(of(row{load(0, 1), load(1<<63, 0)}), 0, 1))
	holdShared(t, c, 0, high+1, c)
	holdShared(t, c, 1, math.MaxUint64, with(of(row{load(high, 2), load(1<<63, 0)}), high, 2))
	holdShared(t, c, high, math.MaxUint64, with(of(row{load(high, 2)}), high, 2))
	holdShared(t, c, high, high+1, with(of(row{load(high, 2)}), high, 2))
	holdShared(t, c, high+1, math.MaxUint64, of(nil))
	holdShared(t, c, 1<<63, high, of(row{load(1<<63, 0)}))
	holdShared(t, c, 1<<63+1, high, of(nil))
}

func TestSharedOfOneThing(t *testing.T) {
	// Froms go to new numbers in other harts, ahead and behind.
	c := in(from(of(row{load(8, 1), load(16, 2), load(16, 3)}, row{store(8, 1), store(16, 2)}, row{store(8, 1), store(16, 3)}), 0, 3, 1, 4, 2, 6), 3, 5, 4, 6, 1, 2, 0)
	holdShared(t, c, 16, 24, in(from(of(row{load(16, 2), load(16, 3)}, row{store(16, 2)}, row{store(16, 3)}), 0, 2, 1, 3), 2, 3, 0, 1))
	holdShared(t, c, 8, 16, in(from(of(row{load(8, 1)}, row{store(8, 1)}, row{store(8, 1)}), 0, 1), 1, 2, 0))
	// A candidate that is neither plain nor allowed is cut likewise.
	c = in(from(of(row{load(8, 1), store(16, 1)}, row{load(16, 1), store(8, 1)}), 0, 3, 2, 1), 3, 1, 2, 0)
	holdShared(t, c, 8, 16, in(from(of(row{load(8, 1)}, row{store(8, 1)}), 0, 1), 1, 0))
	// Pairs: the places between them that are gone, and ahead.
	c = of(row{store(8, 1), store(8, 1), lr(16, 0), store(8, 1), fence(), store(8, 1), sc(16, 1, 2), store(8, 1), lr(24, 0), sc(24, 1, 8), lr(16, 1), sc(16, 2, 10)})
	c = from(c, 10, 6)
	holdShared(t, c, 16, 24, from(of(row{lr(16, 0), fence(), sc(16, 1, 0), lr(16, 1), sc(16, 2, 3)}), 3, 2))
	holdShared(t, c, 24, 32, of(row{fence(), lr(24, 0), sc(24, 1, 1)}))
	holdShared(t, c, 8, 16, of(row{store(8, 1), store(8, 1), store(8, 1), fence(), store(8, 1), store(8, 1)}))
	// What an event has besides stays.
	e := api.Event{Kind: api.EvAmo, Addr: 16, Load: 0, Store: 1 << 63, Aq: true, Rl: true}
	f := api.Event{Kind: api.EvFence, Pred: 15, Succ: 8}
	holdShared(t, of(row{load(8, 0), e, f}), 16, 24, of(row{e, f}))
	// Deps that are gone, all or some; of fences, too.
	l := on(0, 1, 2, 3, 4)
	c = of(row{load(8, 0), load(16, 0), fence(), load(8, 0), load(16, 0), hangs(store(16, 0), l, l[:4], l[3:]), hangs(store(8, 1), on(1, 4), on(5), on(2))})
	holdShared(t, c, 16, 24, of(row{load(16, 0), fence(), load(16, 0), hangs(store(16, 0), on(0, 1, 2), on(0, 1), on(2))}))
	holdShared(t, c, 8, 16, of(row{load(8, 0), fence(), load(8, 0), hangs(store(8, 1), nil, nil, on(1))}))
	// No harts' events at all.
	holdShared(t, of(nil, nil), 0, 100, of(nil, nil))
	holdShared(t, with(of(nil), 8, 0, 16, 1, 24, 0), 8, 24, with(of(nil), 8, 0, 16, 1))
}

func TestSharedOfOneThatMayNotBe(t *testing.T) {
	for name, c := range badCands() {
		if name == "good" {
			continue
		}
		for _, r := range [][2]uint64{{0, 0}, {8, 16}, {0, math.MaxUint64}, {16, 8}} {
			if got := inter.Shared(c, r[0], r[1]); told(got) != told(c) || !cand.Same(got, c) {
				t.Errorf("%s: %s, was %s", name, told(got), told(c))
			}
		}
	}
}

func TestSharedAtRandom(t *testing.T) {
	d := dice(6)
	cut, whole := 0, 0
	for range 4000 {
		c := d.cand(1+d.below(5), pick(&d, 2, 4, 8), 1)
		from := pick[uint64](&d, 0, 1, 8, 9, 16, 24, 25, 1<<63, 1<<63+8, math.MaxUint64)
		to := pick[uint64](&d, 0, 8, 16, 17, 24, 25, 32, 1<<63+8, 1<<63+9, math.MaxUint64)
		want := plainShared(c, from, to)
		holdShared(t, c, from, to, want)
		switch len(want.From) {
		case len(c.From):
			whole++
		default:
			cut++
		}
		// Cut once more, it is the same; to two ranges, one behind the other, as to both at once.
		if got := inter.Shared(want, from, to); tell(got) != tell(want) {
			t.Errorf("%s, was %s", tell(got), tell(want))
		}
		both := inter.Shared(inter.Shared(c, 8, 24), 16, math.MaxUint64)
		if got := inter.Shared(c, 16, 24); tell(got) != tell(both) {
			t.Errorf("%s, want %s", tell(both), tell(got))
		}
		if plainPlain(c) && !inter.Plain(want) {
			t.Errorf("%s is not plain, but %s is", tell(want), tell(c))
		}
	}
	if cut < 1500 || whole < 200 {
		t.Errorf("%d were cut, %d stayed", cut, whole)
	}
	// What came of weaves.
	many(t, 7, 300, func(m api.Image, w api.Weave) {
		c := must(t, m, w).Cand
		for _, r := range [][2]uint64{{8, 16}, {0, 16}, {16, math.MaxUint64}, {8, 8}} {
			holdShared(t, c, r[0], r[1], plainShared(c, r[0], r[1]))
		}
	})
}

func TestSharedKeepsAsManyHarts(t *testing.T) {
	for harts := 1; harts <= api.MaxHarts; harts++ {
		c := of(slices.Repeat([]row{{store(8, 1)}}, harts)...)
		holdShared(t, c, 0, 8, of(make([]row, harts)...))
		holdShared(t, c, 8, 9, c)
	}
}
