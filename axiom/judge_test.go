package axiom_test

import (
	"testing"

	"fencepost/api"
	"fencepost/axiom"
	"fencepost/cand"
)

// P11.1: Judge; P11.2: Ok: the chapter's examples, which axiom is told, and candidates that may not be.

// passing answers the chapter's example: two stores of 1, at 8 and 16, and loads of them turned about, which find 1 and 0.
func passing() api.Cand {
	one := func(e api.Event) api.Event { e.Store = 1; return e }
	c := from(of(row{one(store(8)), one(store(16))}, row{load(16), load(8)}), 2, 1)
	c.Harts[1][0].Load = 1
	return in(c, 1, 2, 3, 0)
}

// passingFenced answers the same with fences between.
func passingFenced() api.Cand {
	c := passing()
	c = of(
		row{c.Harts[0][0], fence(w, w), c.Harts[0][1]},
		row{c.Harts[1][0], fence(r, r), c.Harts[1][1]},
	)
	return in(from(c, 3, 2), 2, 3, 5, 0)
}

func TestExamples(t *testing.T) {
	hold(t, passing(), ok())
	hold(t, passingFenced(), not(api.WhyOrder, 0, 2))
	if got := axiom.Line(axiom.Judge(passing())); got != "ok" {
		t.Errorf("Line tells %q", got)
	}
	if got := axiom.Line(axiom.Judge(passingFenced())); got != "order 0 2" {
		t.Errorf("Line tells %q", got)
	}
}

func TestKindsOfWhy(t *testing.T) {
	if api.WhyForm != 1 || api.WhyOrder != 2 || api.WhyValue != 3 || api.WhyPair != 4 {
		t.Error(api.WhyForm, api.WhyOrder, api.WhyValue, api.WhyPair)
	}
	hold(t, in(of(row{store(8), store(8)}), 1, 0), not(2, 0, 1))
	hold(t, from(of(row{load(8)}, row{store(8)}), 0, 1), not(3, 0, -1))
	hold(t, in(of(row{lr(8), sc(8, 0)}, row{store(8)}), 0, 2, 1), not(4, 0, 2))
}

// three answers a candidate, and what is to be said of it, in which some of the axioms are broken, each by harts of its own; these stand as they are told, or turned about.
func three(order, value, pair, turned bool) (api.Cand, api.Judged) {
	rows := []row{{store(8), store(8)}, {load(16)}, {store(16)}, {lr(24), sc(24, 0)}, {store(24)}}
	if turned {
		rows = []row{rows[4], rows[3], rows[2], rows[1], rows[0]}
	}
	c := of(rows...)
	// Where each one's first number stands.
	first, second, reader, writer, lr, other := 0, 1, 2, 3, 4, 6
	if turned {
		first, second, reader, writer, lr, other = 5, 6, 4, 3, 1, 0
	}
	sc, want := lr+1, ok()
	c.Order = nil
	if pair {
		c.Order, want = append(c.Order, lr, other, sc), not(api.WhyPair, lr, other)
	} else {
		c.Order = append(c.Order, lr, sc, other)
	}
	c.Order = append(c.Order, reader, writer)
	if value {
		c, want = from(c, reader, writer), not(api.WhyValue, reader, none)
	}
	if order {
		c.Order, want = append(c.Order, second, first), not(api.WhyOrder, first, second)
	} else {
		c.Order = append(c.Order, first, second)
	}
	return c, want
}

func TestWhichAxiomIsTold(t *testing.T) {
	for bits := range 16 {
		c, want := three(bits&1 > 0, bits&2 > 0, bits&4 > 0, bits&8 > 0)
		hold(t, c, want)
		// Each is broken alone, whatever the others are.
		for n, j := range axiom.Alone(c) {
			if j.OK != (bits>>n&1 == 0) {
				t.Errorf("axiom %d of %s: %+v", n, told(c), j)
			}
		}
	}
}

func TestOneEventBreaksSeveral(t *testing.T) {
	// A load behind its own hart's store, which stands above it and isn't read: the value; with a fence between the order too.
	c := in(of(row{store(8), load(8)}), 1, 0)
	hold(t, c, not(api.WhyValue, 1, 0))
	c = in(of(row{store(8), fence(w, r), load(8)}), 2, 0)
	hold(t, c, not(api.WhyOrder, 0, 2))
	// An lr that reads what it should not, while another hart stores between.
	c = in(from(of(row{lr(8), sc(8, 0)}, row{store(8)}), 0, 2), 0, 2, 1)
	hold(t, c, not(api.WhyValue, 0, none))
	hold(t, in(c, 1, 2, 0), not(api.WhyOrder, 0, 1))
}

func TestAllowed(t *testing.T) {
	hold(t, of(row{store(8)}), ok())
	hold(t, of(row{load(8)}), ok())
	hold(t, of(row{amo(8)}), ok())
	hold(t, of(row{lr(8), sc(8, 0)}), ok())
	hold(t, from(of(row{store(8)}, row{load(8)}), 1, 0), ok())
	hold(t, in(of(row{load(8), store(16)}, row{load(16), store(8)}), 1, 3, 0, 2), not(api.WhyValue, 0, 3))
	hold(t, in(from(of(row{load(8), store(16)}, row{load(16), store(8)}), 0, 3, 2, 1), 1, 3, 0, 2), ok())
	// Store buffering: both read what was there at first.
	hold(t, in(of(row{store(8), load(16)}, row{store(16), load(8)}), 1, 3, 0, 2), ok())
	hold(t, in(of(row{store(8), fence(w, r), load(16)}, row{store(16), load(8)}), 2, 4, 0, 3), not(api.WhyOrder, 0, 2))
}

func TestNoneOfMemorys(t *testing.T) {
	for harts := 1; harts <= api.MaxHarts; harts++ {
		hold(t, of(make([]row, harts)...), ok())
		holdSources(t, of(make([]row, harts)...))
		rows := make([]row, harts)
		rows[harts-1] = row{fence(15, 15), fence(0, 0)}
		hold(t, of(rows...), ok())
		holdSources(t, of(rows...), none, none)
	}
	c := of(row{fence(15, 15)}, nil, row{fence(r, w), fence(w, r)})
	c.First = []api.Cell{{Addr: 8}, {Addr: 16, Value: 1}}
	hold(t, c, ok())
	holdSources(t, c, none, none, none)
}

// holdNone holds all calls of a candidate that may not be.
func holdNone(t *testing.T, c api.Cand) {
	t.Helper()
	if err := cand.Check(c); err != api.ErrArg {
		t.Fatalf("%s may be: %d", told(c), err)
	}
	holdNow(t, c, not(api.WhyForm, none, none))
	holdNoSources(t, c)
	for n := range 8 {
		if got := axiom.Source(c, n); got != none {
			t.Errorf("Source(%s, %d) = %d", told(c), n, got)
		}
	}
}

func TestAllCallsOfCandidatesThatMayNotBe(t *testing.T) {
	c := from(of(row{aq(amo(8)), fence(15, 15), rl(amo(8)), byAddr(load(8), 0)}, row{store(8)}), 2, 0, 3, 2)
	c.First = []api.Cell{{Addr: 8}, {Addr: 16, Value: 1}}
	hold(t, c, ok())
	wrong := from(in(c, 4, 3, 2, 0), 0, 2)
	hold(t, wrong, not(api.WhyOrder, 0, 2))
	for n, spoil := range []func(c *api.Cand){
		func(c *api.Cand) { c.Harts = nil },
		func(c *api.Cand) { c.Harts = append(c.Harts, make([][]api.Event, 7)...) },
		func(c *api.Cand) { c.Harts = append(c.Harts, c.Harts[0]) },
		func(c *api.Cand) { c.Harts[0], c.Harts[1] = c.Harts[1], c.Harts[0] },
		func(c *api.Cand) { c.Harts[0] = c.Harts[0][:3] },
		func(c *api.Cand) { c.Harts[0][0].Kind = 7 },
		func(c *api.Cand) { c.Harts[0][0].At = 1 },
		func(c *api.Cand) { c.Harts[0][3].Addr = 16 },
		func(c *api.Cand) { c.Harts[0][3].Addr = 9 },
		func(c *api.Cand) { c.Harts[0][3].Load = 1 },
		func(c *api.Cand) { c.Harts[0][3].Deps.Addr = []int{3} },
		func(c *api.Cand) { c.Harts[0][3].Kind, c.Harts[0][3].Pair = api.EvSC, 2 },
		func(c *api.Cand) { c.Harts[1][0].Aq = true },
		func(c *api.Cand) { c.Harts[1][0].Hart = 0 },
		func(c *api.Cand) { c.From[3] = 3 },
		func(c *api.Cand) { c.From[3] = 5 },
		func(c *api.Cand) { c.From[3] = 1 },
		func(c *api.Cand) { c.From[3] = -2 },
		func(c *api.Cand) { c.From[4] = 0 },
		func(c *api.Cand) { c.From = c.From[:4] },
		func(c *api.Cand) { c.From = append(c.From, none) },
		func(c *api.Cand) { c.Order = c.Order[:3] },
		func(c *api.Cand) { c.Order = nil },
		func(c *api.Cand) { c.Order[0] = c.Order[1] },
		func(c *api.Cand) { c.Order[0] = 1 },
		func(c *api.Cand) { c.Order[0] = 5 },
		func(c *api.Cand) { c.Order[0] = -1 },
		func(c *api.Cand) { c.Order = append(c.Order, 0) },
		func(c *api.Cand) { c.First[0].Addr = 12 },
		func(c *api.Cand) { c.First[0].Addr = 24 },
	} {
		for _, c := range []api.Cand{c, wrong} {
			one := copied(c)
			spoil(&one)
			if cand.Check(one) == api.OK {
				t.Fatalf("spoilt by %d, it may be", n)
			}
			holdNone(t, one)
		}
	}
	holdNone(t, api.Cand{})
	for _, c := range []api.Cand{of(nil), of(row{fence(0, 0)})} {
		c.Order = []int{0}
		holdNone(t, c)
	}
	// The harts of nine that do nothing.
	holdNone(t, of(make([]row, 9)...))
}

func TestJudgeOfMany(t *testing.T) {
	d := dice(2)
	for range 3000 {
		holdAll(t, d.cand(1+d.below(4), pick(&d, 2, 4, 6)))
	}
	for range 20 {
		holdAll(t, d.cand(8, 6))
	}
}

func TestLitmus(t *testing.T) {
	all := fence(r|w, r|w)
	for _, x := range []struct {
		what string
		c    api.Cand
		want bool
	}{
		// No From is what was there at first.
		{"store buffering", of(row{store(8), load(16)}, row{store(16), load(8)}), true},
		{"one fence alone", of(row{store(8), fence(w, r), load(16)}, row{store(16), load(8)}), true},
		{"two fences", of(row{store(8), fence(w, r), load(16)}, row{store(16), fence(w, r), load(8)}), false},
		{"fences of others", of(row{store(8), fence(w, w), load(16)}, row{store(16), fence(r, r), load(8)}), true},
		{"amos in the stores' place", of(row{amo(8), load(16)}, row{amo(16), load(8)}), true},
		{"amos that acquire", of(row{aq(amo(8)), load(16)}, row{aq(amo(16)), load(8)}), false},
		{"load buffering", from(of(row{load(8), store(16)}, row{load(16), store(8)}), 0, 3, 2, 1), true},
		{"by data", from(of(row{load(8), byData(store(16), 0)}, row{load(16), byData(store(8), 0)}), 0, 3, 2, 1), false},
		{"by data, one alone", from(of(row{load(8), byData(store(16), 0)}, row{load(16), store(8)}), 0, 3, 2, 1), true},
		{"by the way", from(of(row{load(8), byWay(store(16), 0)}, row{load(16), byWay(store(8), 0)}), 0, 3, 2, 1), false},
		{"message passing", from(of(row{store(8), store(16)}, row{load(16), load(8)}), 2, 1), true},
		{"the stores fenced", from(of(row{store(8), fence(w, w), store(16)}, row{load(16), load(8)}), 3, 2), true},
		{"the loads fenced", from(of(row{store(8), store(16)}, row{load(16), fence(r, r), load(8)}), 2, 1), true},
		{"both fenced", from(of(row{store(8), fence(w, w), store(16)}, row{load(16), fence(r, r), load(8)}), 3, 2), false},
		{"fenced, by address", from(of(row{store(8), fence(w, w), store(16)}, row{load(16), byAddr(load(8), 0)}), 3, 2), false},
		{"fenced, by the way", from(of(row{store(8), fence(w, w), store(16)}, row{load(16), byWay(load(8), 0)}), 3, 2), true},
		{"one address, two loads", from(of(row{store(8)}, row{load(8), load(8)}), 1, 0), false},
		{"one address, a store behind", from(of(row{load(8), store(8)}), 0, 1), false},
		{"one address, a store ahead", of(row{store(8), load(8)}), false},
		{"two readers, four harts", from(of(row{store(8)}, row{store(16)}, row{load(8), all, load(16)}, row{load(16), all, load(8)}), 2, 0, 5, 1), false},
		{"two readers that wait for nothing", from(of(row{store(8)}, row{store(16)}, row{load(8), load(16)}, row{load(16), load(8)}), 2, 0, 4, 1), true},
		{"own stores are read early", from(of(row{store(8), load(8), fence(r, r), load(16)}, row{store(16), load(16), fence(r, r), load(8)}), 1, 0, 5, 4), true},
		{"own amos are not", from(of(row{amo(8), load(8), fence(r, r), load(16)}, row{amo(16), load(16), fence(r, r), load(8)}), 1, 0, 5, 4), false},
		{"two amos of one", of(row{amo(8)}, row{amo(8)}), false},
		{"two amos, one behind the other", from(of(row{amo(8)}, row{amo(8)}), 1, 0), true},
		{"two amos of each other", from(of(row{amo(8)}, row{amo(8)}), 0, 1, 1, 0), false},
		{"two scs of one", of(row{lr(8), sc(8, 0)}, row{lr(8), sc(8, 0)}), false},
		{"two scs, one behind the other", from(of(row{lr(8), sc(8, 0)}, row{lr(8), sc(8, 0)}), 2, 1), true},
		{"an sc and an amo of one", of(row{lr(8), sc(8, 0)}, row{amo(8)}), false},
		{"an sc and an amo behind it", from(of(row{lr(8), sc(8, 0)}, row{amo(8)}), 2, 1), true},
	} {
		if got := somehow(t, x.c); got != x.want {
			t.Errorf("%s: some order of %s is allowed: %t", x.what, told(x.c), got)
		}
	}
}

// somehow tells whether a candidate is allowed in any order; each is held against the reference.
func somehow(t *testing.T, c api.Cand) bool {
	t.Helper()
	some := false
	for order := range orders(c.Order) {
		c := in(c, order...)
		holdNow(t, c, plainly(c).judge())
		some = some || axiom.Ok(c)
	}
	return some
}

// orders goes through all orders of numbers.
func orders(l []int) func(yield func([]int) bool) {
	return func(yield func([]int) bool) {
		var more func(ahead, left []int) bool
		more = func(ahead, left []int) bool {
			if len(left) == 0 {
				return yield(ahead)
			}
			for at, n := range left {
				rest := append(append([]int(nil), left[:at]...), left[at+1:]...)
				if !more(append(append([]int(nil), ahead...), n), rest) {
					return false
				}
			}
			return true
		}
		more(nil, l)
	}
}
