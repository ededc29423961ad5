package ppo_test

import (
	"math"
	"slices"
	"testing"

	"fencepost/api"
	"fencepost/cand"
	"fencepost/ppo"
)

// P10.1: Rule, Holds: each rule by hand, where it holds, and where all that it asks but one thing is so.

// up answers a candidate with a hart more, ahead of all others.
func up(c api.Cand, l row) api.Cand {
	u := of(l)
	for _, events := range copied(c).Harts {
		for at := range events {
			events[at].Hart++
		}
		u.Harts = append(u.Harts, events)
	}
	for _, n := range c.From {
		if n >= 0 {
			n += len(l)
		}
		u.From = append(u.From, n)
	}
	for _, n := range c.Order {
		u.Order = append(u.Order, n+len(l))
	}
	return u
}

// holdOne holds that of two numbers just these rules hold: turned about none; and the same where other numbers and places stand ahead.
func holdOne(t *testing.T, c api.Cand, a, b int, want ...int) {
	t.Helper()
	if err := cand.Check(c); err != api.OK {
		t.Fatalf("%+v may not be: %d", c, err)
	}
	if got := plainly(c).rules(a, b); !slices.Equal(got, want) {
		t.Fatalf("the reference tells of %d, %d of %+v: %v, want %v", a, b, c, got, want)
	}
	holdRules(t, c, a, b, want...)
	holdApart(t, c, b, a)
	// Events of another hart, which do what these do.
	others := row{load(8), aq(rl(lr(8))), store(8), amo(16), fence(15, 15)}
	holdRules(t, up(c, others), a+len(others), b+len(others), want...)
	for hart, l := range c.Harts {
		for at := range len(l) + 1 {
			more, now := put(c, hart, at, fence(o|i, o|i))
			holdRules(t, more, now[a], now[b], want...)
		}
	}
}

// reading and writing answer events that do so at an address, an amo does both.
func reading(addr uint64) []api.Event { return []api.Event{load(addr), lr(addr), amo(addr)} }
func writing(addr uint64) []api.Event { return []api.Event{store(addr), amo(addr)} }

func TestExamples(t *testing.T) {
	holdOne(t, of(row{store(8), load(16)}), 0, 1)
	holdOne(t, of(row{store(8), fence(w, r), load(16)}), 0, 2, 4)
}

func TestRule1(t *testing.T) {
	for _, a := range slices.Concat(reading(8), writing(8)) {
		for _, b := range writing(8) {
			holdOne(t, of(row{a, b}), 0, 1, 1)
			holdOne(t, of(row{a, load(8), store(16), b}), 0, 3, 1)
		}
		// b does not write.
		holdOne(t, of(row{a, load(8)}), 0, 1)
		holdOne(t, of(row{a, lr(8)}), 0, 1)
		// Another Addr.
		for _, addr := range []uint64{0, 16, 1<<63 + 8, 1<<32 + 8, math.MaxUint64 - 7} {
			for _, b := range writing(addr) {
				holdOne(t, of(row{a, b}), 0, 1)
			}
		}
	}
	holdOne(t, of(row{lr(8), store(8), sc(8, 0)}), 1, 2, 1)
	holdOne(t, of(row{lr(8), sc(8, 0), store(8)}), 1, 2, 1)
	// Of another hart.
	holdOne(t, of(row{store(8)}, row{store(8)}), 0, 1)
}

func TestRule2(t *testing.T) {
	others := row{store(8), amo(8), store(16)}
	for _, b := range []api.Event{load(8), lr(8)} {
		for _, a := range reading(8) {
			c := of(row{a, b}, others)
			holdOne(t, from(c, 1, 2), 0, 1, 2)
			holdOne(t, from(c, 0, 2), 0, 1, 2)
			holdOne(t, from(c, 0, 2, 1, 3), 0, 1, 2)
			holdOne(t, from(c, 0, 3, 1, 2), 0, 1, 2)
			// The same From; both -1.
			holdOne(t, from(c, 0, 2, 1, 2), 0, 1)
			holdOne(t, from(c, 0, 3, 1, 3), 0, 1)
			holdOne(t, c, 0, 1)
		}
		// Another Addr.
		c := of(row{load(16), b}, others)
		holdOne(t, from(c, 1, 2), 0, 1)
		holdOne(t, from(c, 0, 4, 1, 2), 0, 1)
		// a, or b, does not read.
		holdOne(t, from(of(row{store(8), b}, others), 1, 2), 0, 1)
		holdOne(t, from(of(row{b, store(8)}, others), 0, 2), 0, 1, 1)
	}
	// b writes too.
	holdOne(t, from(of(row{load(8), amo(8)}, others), 1, 2), 0, 1, 1, 2)
	// a is not between: it may write there itself.
	holdOne(t, from(of(row{amo(8), load(8)}, others), 1, 2), 0, 1, 2)
}

func TestRule2WithOthersBetween(t *testing.T) {
	others := row{store(8), amo(8)}
	// One that writes there.
	for _, m := range writing(8) {
		holdOne(t, from(of(row{load(8), m, load(8)}, others), 2, 3), 0, 2)
		holdOne(t, from(of(row{load(8), load(16), m, load(16), load(8)}, others), 4, 5), 0, 4)
		holdOne(t, from(of(row{load(8), m, m, load(8)}, others), 3, 4), 0, 3)
		// b reads from it.
		holdOne(t, from(of(row{load(8), m, load(8)}, others), 2, 1), 0, 2)
	}
	holdOne(t, from(of(row{lr(8), sc(8, 0), load(8)}, others), 2, 3), 0, 2)
	// One that reads there, or writes elsewhere; a fence.
	for _, m := range []api.Event{load(8), lr(8), store(16), amo(16), store(1<<63 + 8), fence(w, w)} {
		holdOne(t, from(of(row{load(8), m, load(8)}, others), 2, 3), 0, 2, 2)
	}
	// Ahead of a, behind b.
	holdOne(t, from(of(row{store(8), load(8), load(8), store(8)}, others), 2, 4), 1, 2, 2)
	holdOne(t, from(of(row{store(8), load(8), load(8), store(8)}, others), 1, 3, 2, 0), 1, 2, 2)
	// Ahead of a and between.
	holdOne(t, from(of(row{store(8), load(8), store(8), load(8), store(8)}, others), 3, 5), 1, 3)
}

func TestRule3(t *testing.T) {
	for _, b := range []api.Event{load(8), lr(8)} {
		holdOne(t, from(of(row{lr(8), sc(8, 0), b}), 2, 1), 1, 2, 3)
		// What writes between does not matter to it.
		holdOne(t, from(of(row{amo(8), store(8), b}), 2, 0), 0, 2, 3)
		holdOne(t, from(of(row{lr(8), sc(8, 0), store(8), b}), 3, 1), 1, 3, 3)
		holdOne(t, from(of(row{amo(8), b}), 1, 0), 0, 1, 2, 3)
		// Another From.
		holdOne(t, from(of(row{lr(8), sc(8, 0), b}, row{store(8)}), 2, 3), 1, 2)
		holdOne(t, of(row{lr(8), sc(8, 0), b}), 1, 2)
		holdOne(t, from(of(row{amo(8), store(8), b}), 2, 1), 0, 2)
		holdOne(t, from(of(row{amo(8), amo(8), b}), 2, 1), 0, 2)
		holdOne(t, of(row{amo(8), store(8), b}), 0, 2)
		// A store in its place.
		holdOne(t, from(of(row{store(8), b}), 1, 0), 0, 1)
		holdOne(t, from(of(row{store(8), store(8), b}), 2, 0), 0, 2)
	}
	holdOne(t, from(of(row{lr(8), sc(8, 0), amo(8)}), 2, 1), 1, 2, 1, 3)
	// It reads from one of another hart, at the same place.
	holdOne(t, from(of(row{lr(8), sc(8, 0), load(8)}, row{lr(8), sc(8, 0), load(8)}), 2, 4, 5, 1), 1, 2)
	// It reads from one behind it.
	holdOne(t, from(of(row{load(8), amo(8)}), 0, 1), 0, 1, 1, 2)
}

// accesses answers rows, of which the last events are those of memory's of each kind, at an address each.
func accesses(addr uint64) []row {
	return []row{{load(addr)}, {store(addr)}, {lr(addr)}, {amo(addr)}, {lr(addr), sc(addr, 0)}}
}

func TestRule4OfEachLetter(t *testing.T) {
	for _, ahead := range accesses(8) {
		for _, b := range []api.Event{load(16), store(16), lr(16), amo(16)} {
			for letters := range 256 {
				pred, succ := letters%16, letters/16
				l := append(slices.Clone(ahead), fence(pred, succ), b)
				at := len(l) - 1
				var want []int
				if plainSide(pred, l[at-2]) && plainSide(succ, b) {
					want = []int{4}
				}
				holdRules(t, of(l), at-2, at, want...)
			}
		}
	}
}

func TestRule4(t *testing.T) {
	for _, x := range []struct {
		l    row
		want bool
	}{
		{row{load(8), fence(r, r), load(16)}, true},
		{row{load(8), fence(r, w), store(16)}, true},
		{row{store(8), fence(w, r), load(16)}, true},
		{row{store(8), fence(w, w), store(16)}, true},
		{row{amo(8), fence(w, r), amo(16)}, true},
		{row{amo(8), fence(r, w), amo(16)}, true},
		{row{amo(8), fence(r|w, r|w), lr(16)}, true},
		// A letter is left out.
		{row{load(8), fence(w|o|i, r|w|o|i), load(16)}, false},
		{row{load(8), fence(r|w|o|i, w|o|i), load(16)}, false},
		{row{load(8), fence(w|o|i, r|w|o|i), store(16)}, false},
		{row{load(8), fence(r|w|o|i, r|o|i), store(16)}, false},
		{row{store(8), fence(r|o|i, r|w|o|i), load(16)}, false},
		{row{store(8), fence(r|w|o|i, w|o|i), load(16)}, false},
		{row{store(8), fence(r|o|i, r|w|o|i), store(16)}, false},
		{row{store(8), fence(r|w|o|i, r|o|i), store(16)}, false},
		{row{amo(8), fence(o|i, r|w), amo(16)}, false},
		{row{amo(8), fence(r|w, o|i), amo(16)}, false},
		// Two, of which neither does both: each has one, or each would do for the other one's.
		{row{load(8), fence(r, w), fence(w, r), load(16)}, false},
		{row{load(8), fence(r, 0), fence(0, r), load(16)}, false},
		{row{store(8), fence(r, r), fence(w, w), load(16)}, false},
		{row{store(8), fence(w, w), load(24), fence(r, r), load(16)}, false},
		{row{amo(8), fence(r|w, 0), fence(0, r|w), amo(16)}, false},
		// One of several does.
		{row{load(8), fence(r, r), fence(w, w), load(16)}, true},
		{row{load(8), fence(w, w), fence(r, r), load(16)}, true},
		{row{load(8), fence(0, 0), fence(r|w, r|w), fence(w, r), fence(r, w), load(16)}, true},
		{row{load(8), store(24), fence(r, r), fence(0, 0), store(32), load(16)}, true},
	} {
		b := len(x.l) - 1
		if x.want {
			holdOne(t, of(x.l), 0, b, 4)
			continue
		}
		holdOne(t, of(x.l), 0, b)
	}
}

func TestRule4OfFencesThatStandElsewhere(t *testing.T) {
	all := fence(15, 15)
	holdOne(t, of(row{all, load(8), load(16), all}), 1, 2)
	holdOne(t, of(row{all, load(8), all, load(16), all}), 1, 3, 4)
	holdOne(t, of(row{store(24), all, store(8), load(16), all, load(32)}), 2, 3)
	// Of other harts.
	holdOne(t, of(row{all}, row{load(8), load(16)}, row{all}), 1, 2)
	holdOne(t, of(row{load(8), all}, row{all, load(16)}), 0, 3)
}

func TestRules5To7(t *testing.T) {
	for _, ahead := range accesses(8) {
		for _, b := range []api.Event{load(16), store(16), lr(16), amo(16)} {
			for marks := range 16 {
				l := append(slices.Clone(ahead), b)
				at := len(l) - 1
				a, b := &l[at-1], &l[at]
				a.Aq, a.Rl, b.Aq, b.Rl = marks&1 > 0, marks&2 > 0, marks&4 > 0, marks&8 > 0
				var want []int
				if marks&1 > 0 {
					want = append(want, 5)
				}
				if marks&8 > 0 {
					want = append(want, 6)
				}
				if marks&3 > 0 && marks&12 > 0 {
					want = append(want, 7)
				}
				// Loads and stores have no marks.
				if cand.Check(of(l)) == api.OK {
					holdOne(t, of(l), at-1, at, want...)
				} else if a.Kind > api.EvStore && b.Kind > api.EvStore {
					t.Errorf("%+v may not be", l)
				}
			}
		}
	}
	// The mark on the other one of the two.
	holdOne(t, of(row{load(8), aq(lr(16))}), 0, 1)
	holdOne(t, of(row{rl(lr(8)), load(16)}), 0, 1)
	holdOne(t, of(row{lr(8), aq(lr(16))}), 0, 1)
	holdOne(t, of(row{rl(amo(8)), amo(16)}), 0, 1)
	// On one between, ahead, behind.
	holdOne(t, of(row{aq(lr(32)), lr(8), aq(rl(amo(24))), lr(16), rl(amo(32))}), 1, 3)
	// The marks of an sc, and those of its lr.
	holdOne(t, of(row{lr(8), rl(sc(8, 0)), aq(amo(16))}), 1, 2, 7)
	holdOne(t, of(row{rl(lr(8)), aq(sc(8, 0))}), 0, 1, 1, 7, 8)
	holdOne(t, of(row{load(16), lr(8), rl(sc(8, 1))}), 0, 2, 6)
	holdOne(t, of(row{lr(8), aq(sc(8, 0)), load(16)}), 1, 2, 5)
}

func TestRule8(t *testing.T) {
	// The pair has the sc's Addr, so that rule 1 holds too.
	holdOne(t, of(row{lr(8), sc(8, 0)}), 0, 1, 1, 8)
	holdOne(t, of(row{load(16), lr(8), store(16), sc(8, 1)}), 1, 3, 1, 8)
	// Another one's pair; one that is no sc, where the pair is the first.
	holdOne(t, of(row{lr(8), lr(8), sc(8, 1)}), 0, 2, 1)
	holdOne(t, of(row{lr(8), lr(8), sc(8, 1)}), 1, 2, 1, 8)
	holdOne(t, of(row{lr(8), sc(8, 0), lr(8), sc(8, 2)}), 0, 3, 1)
	holdOne(t, of(row{lr(8), sc(8, 0), lr(8), sc(8, 2)}), 1, 3, 1)
	holdOne(t, of(row{lr(8), store(8)}), 0, 1, 1)
	holdOne(t, of(row{lr(8), amo(8)}), 0, 1, 1)
	holdOne(t, of(row{lr(8), load(16)}), 0, 1)
	// Another hart's.
	holdOne(t, of(row{lr(8), sc(8, 0)}, row{lr(8), sc(8, 0)}), 0, 3)
	holdOne(t, of(row{lr(8), sc(8, 0)}, row{lr(8), sc(8, 0)}), 2, 3, 1, 8)
}

// hanging are those of memory's that have data.
func hanging(addr uint64) []api.Event { return []api.Event{store(addr), amo(addr)} }

func TestRules9To11(t *testing.T) {
	for _, b := range []api.Event{load(16), lr(16), store(16), amo(16)} {
		// Among others, at each place of the list.
		for _, l := range [][]int{{1}, {0, 1}, {1, 2}, {0, 1, 2}} {
			holdOne(t, of(row{load(8), load(24), load(32), byAddr(b, l...)}), 1, 3, 9)
			if plainWrites(b) {
				holdOne(t, of(row{load(8), load(24), load(32), byData(b, l...)}), 1, 3, 10)
				holdOne(t, of(row{load(8), load(24), load(32), byWay(b, l...)}), 1, 3, 11)
				continue
			}
			// b does not write.
			holdOne(t, of(row{load(8), load(24), load(32), byWay(b, l...)}), 1, 3)
		}
		// It hangs on others.
		for _, l := range [][]int{nil, {0}, {2}, {0, 2}} {
			holdOne(t, of(row{load(8), load(24), load(32), byAddr(b, l...)}), 1, 3)
			holdOne(t, of(row{load(8), load(24), load(32), byWay(b, l...)}), 1, 3)
			if plainWrites(b) {
				holdOne(t, of(row{load(8), load(24), load(32), byData(b, l...)}), 1, 3)
			}
		}
	}
	// By all, each on others.
	b := byWay(byData(byAddr(store(16), 0), 1), 2)
	c := of(row{load(8), load(24), load(32), b})
	holdOne(t, c, 0, 3, 9)
	holdOne(t, c, 1, 3, 10)
	holdOne(t, c, 2, 3, 11)
	// By all three.
	holdOne(t, of(row{load(8), byWay(byData(byAddr(store(16), 0), 0), 0)}), 0, 1, 9, 10, 11)
	// What hangs is a, or one between.
	holdOne(t, of(row{load(8), byAddr(load(24), 0), load(16)}), 1, 2)
	holdOne(t, of(row{load(8), byAddr(load(24), 0), load(16)}), 0, 2)
	// It hangs on what does not read: the lists alone count.
	holdOne(t, of(row{store(8), byAddr(load(16), 0)}), 0, 1, 9)
	holdOne(t, of(row{store(8), byWay(byData(store(16), 0), 0)}), 0, 1, 10, 11)
}

func TestRule12(t *testing.T) {
	for _, b := range []api.Event{load(16), lr(16)} {
		for _, m := range hanging(16) {
			holdOne(t, from(of(row{load(8), byData(m, 0), b}), 2, 1), 0, 2, 12)
			holdOne(t, from(of(row{load(8), byAddr(m, 0), b}), 2, 1), 0, 2, 12)
			holdOne(t, from(of(row{lr(24), load(8), byData(byAddr(m, 0), 1), store(16), b}), 4, 2), 1, 4, 12)
			// It hangs by the way; on another one; on none.
			holdOne(t, from(of(row{load(8), byWay(m, 0), b}), 2, 1), 0, 2)
			holdOne(t, from(of(row{load(8), load(24), byAddr(byData(m, 1), 1), b}), 3, 2), 0, 3)
			holdOne(t, from(of(row{load(8), m, b}), 2, 1), 0, 2)
			// b reads from another one: between, ahead, behind, of another hart, at first.
			hangs := byAddr(byData(m, 0), 0)
			holdOne(t, from(of(row{load(8), hangs, store(16), b}), 3, 2), 0, 3)
			holdOne(t, from(of(row{load(8), store(16), hangs, b}), 3, 1), 0, 3)
			holdOne(t, from(of(row{store(16), load(8), byAddr(byData(m, 1), 1), b}), 3, 0), 1, 3)
			holdOne(t, from(of(row{load(8), hangs, b}, row{store(16)}), 2, 3), 0, 2)
			holdOne(t, of(row{load(8), hangs, b}), 0, 2)
			// It is not between: behind b, of another hart, or a itself.
			holdOne(t, from(of(row{load(8), b, hangs}), 1, 2), 0, 1)
			holdOne(t, from(of(row{load(8), b}, row{load(8), hangs}), 1, 3), 0, 1)
			holdOne(t, from(of(row{load(24), load(8), b}, row{load(8), load(24), byData(m, 0, 1)}), 2, 5), 1, 2)
		}
	}
	// An sc between; b writes too.
	holdOne(t, from(of(row{load(8), lr(16), byData(sc(16, 1), 0), load(16)}), 3, 2), 0, 3, 12)
	holdOne(t, from(of(row{load(8), byData(store(16), 0), amo(16)}), 2, 1), 0, 2, 12)
	holdOne(t, from(of(row{load(8), byAddr(store(16), 0), amo(16)}), 2, 1), 0, 2, 12, 13)
	// b does not read.
	holdOne(t, of(row{load(8), byData(store(16), 0), store(16)}), 0, 2)
	// It hangs on what does not read.
	holdOne(t, from(of(row{store(8), byData(store(16), 0), load(16)}), 2, 1), 0, 2, 12)
}

func TestRule13(t *testing.T) {
	for _, b := range writing(16) {
		for _, m := range []api.Event{load(24), store(24), lr(24), amo(24)} {
			holdOne(t, of(row{load(8), byAddr(m, 0), b}), 0, 2, 13)
			holdOne(t, of(row{load(32), load(8), load(40), byAddr(m, 0, 1, 2), load(24), b}), 1, 5, 13)
			holdOne(t, of(row{load(32), load(8), m, byAddr(m, 0), byAddr(m, 1), b}), 1, 5, 13)
			// Several that hang so.
			holdOne(t, of(row{load(8), byAddr(m, 0), b, byAddr(m, 0)}), 0, 2, 13)
			// By another list; on another one; on none.
			holdOne(t, of(row{load(8), byWay(m, 0), b}), 0, 2)
			holdOne(t, of(row{load(8), m, b}), 0, 2)
			holdOne(t, of(row{load(8), load(32), byAddr(m, 1), b}), 0, 3)
			holdOne(t, of(row{load(8), load(32), byAddr(m, 0), b}), 1, 3)
			if plainWrites(m) {
				holdOne(t, of(row{load(8), byData(m, 0), b}), 0, 2)
			}
			// Not between: behind b; of other harts, at these places.
			holdOne(t, of(row{load(8), b, byAddr(m, 0)}), 0, 1)
			holdOne(t, of(row{load(8), load(24), b}, row{load(8), byAddr(m, 0), b}), 0, 2)
			holdOne(t, of(row{load(8), byAddr(m, 0), b}, row{load(8), load(24), b}), 3, 5)
			// b does not write.
			holdOne(t, of(row{load(8), byAddr(m, 0), load(16)}), 0, 2)
			holdOne(t, of(row{load(8), byAddr(m, 0), lr(16)}), 0, 2)
		}
		// b itself hangs so.
		holdOne(t, of(row{load(8), byAddr(b, 0)}), 0, 1, 9)
		holdOne(t, of(row{load(8), byAddr(load(24), 0), byAddr(b, 0)}), 0, 2, 9, 13)
	}
	holdOne(t, of(row{load(8), lr(16), byAddr(sc(16, 1), 0), store(24)}), 0, 3, 13)
	holdOne(t, of(row{load(8), lr(16), byAddr(load(24), 0), sc(16, 1)}), 0, 3, 13)
	// It hangs on what does not read.
	holdOne(t, of(row{store(8), byAddr(load(16), 0), store(24)}), 0, 2, 13)
}

func TestSeveralRules(t *testing.T) {
	holdOne(t, of(row{aq(amo(8)), fence(r|w, r|w), rl(byAddr(byData(byWay(amo(8), 0), 0), 0))}), 0, 2, 1, 4, 5, 6, 7, 9, 10, 11)
	c := of(row{aq(lr(8)), fence(r, w), byAddr(load(16), 0), rl(byWay(byData(byAddr(sc(8, 0), 0), 0), 0, 2))})
	holdOne(t, c, 0, 3, 1, 4, 5, 6, 7, 8, 9, 10, 11, 13)
	holdOne(t, c, 2, 3, 6, 11)
	c = from(of(row{aq(amo(8)), store(8), fence(w, r), byWay(byAddr(rl(lr(8)), 0), 0)}), 3, 0)
	holdOne(t, c, 0, 3, 3, 4, 5, 6, 7, 9)
	c = from(of(row{aq(amo(8)), byAddr(byData(amo(8), 0), 0), fence(w, r), byData(byAddr(rl(amo(8)), 0), 0)}), 3, 1)
	holdOne(t, c, 0, 3, 1, 4, 5, 6, 7, 9, 10, 12, 13)
}

func TestNumbersThatHaveNoRule(t *testing.T) {
	// All that may be, but for the one thing.
	one := rl(aq(byWay(byData(byAddr(amo(8), 0), 0), 0)))
	first := rl(aq(amo(8)))
	all := fence(15, 15)
	holdRules(t, of(row{first, one}), 0, 1, 1, 5, 6, 7, 9, 10, 11)
	// The same.
	for n := range 2 {
		holdApart(t, of(row{first, one}), n, n)
	}
	// Of two harts.
	c := of(row{first, one, all}, row{first, one, all}, row{first, one})
	for _, a := range []int{0, 1} {
		for _, b := range []int{3, 4, 6, 7} {
			holdApart(t, c, a, b)
			holdApart(t, c, b, a)
		}
	}
	for _, a := range []int{3, 4} {
		for _, b := range []int{6, 7} {
			holdApart(t, c, a, b)
			holdApart(t, c, b, a)
		}
	}
	// A fence in the place of one.
	c = of(row{all, first, all, rl(amo(8)), all})
	for _, f := range []int{0, 2, 4} {
		for n := range 5 {
			holdApart(t, c, f, n)
			holdApart(t, c, n, f)
		}
	}
	holdOne(t, c, 1, 3, 1, 4, 5, 6, 7)
	// Numbers that are none.
	for _, c := range []api.Cand{c, of(row{first, one}), of(row{first}, row{rl(aq(amo(8)))}), of(nil), of(nil, nil)} {
		for _, none := range noNumbers(len(c.From)) {
			holdApart(t, c, none, none)
			for n := -1; n <= len(c.From); n++ {
				holdApart(t, c, n, none)
				holdApart(t, c, none, n)
			}
		}
	}
}

func TestRulesOfMany(t *testing.T) {
	d := dice(2)
	for range 600 {
		hold(t, d.cand(1+d.below(3), pick(&d, 2, 3, 6)))
	}
	for range 4 {
		hold(t, d.cand(8, 8))
	}
}

func TestRuleAnswersTheFirstThatHolds(t *testing.T) {
	d := dice(3)
	for range 300 {
		c := d.cand(2, 6)
		for a := range c.From {
			for b := range c.From {
				first := 0
				for rule := rules; rule > 0; rule-- {
					if ppo.Holds(c, a, b, rule) {
						first = rule
					}
				}
				if got := ppo.Rule(c, a, b); got != first {
					t.Errorf("Rule(%+v, %d, %d) = %d, the first that holds is %d", c, a, b, got, first)
				}
			}
		}
	}
}
