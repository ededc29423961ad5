package inter_test

import (
	"fmt"
	"slices"
	"testing"

	"fencepost/api"
	"fencepost/axiom"
	"fencepost/cand"
	"fencepost/inter"
	"fencepost/ppo"
	"fencepost/run"
)

// P12.3: what comes of a weave is allowed, and plain; what is allowed and full is plain; a weave of its Turns finds its values

func TestWhatComesOfAWeaveIsAllowedAndPlain(t *testing.T) {
	events, most := 0, 0
	d := dice(11)
	for range 1000 {
		m := d.program(t)
		w := d.weave(len(m.Start))
		for range pick(&d, 20, 100, 250) {
			w.Harts = append(w.Harts, d.below(1000)-500)
		}
		got, err := inter.Do(m, w)
		if err != api.OK {
			t.Fatalf("Do: %d", err)
		}
		holdGood(t, got)
		if !plainPlain(got.Cand) {
			t.Fatalf("not plain: %s", tell(got.Cand))
		}
		events += len(got.Cand.From)
		most = max(most, len(got.Cand.From))
		// Cut to a range it is plain, too.
		if c := inter.Shared(got.Cand, 8, 16); !inter.Plain(c) {
			t.Fatalf("not plain: %s, cut %s", tell(got.Cand), tell(c))
		}
	}
	if events < 10000 || most < 100 {
		t.Errorf("%d events alone, at most %d", events, most)
	}
}

// froms answers whom a number of a candidate may read from, by what it loaded.
func froms(c api.Cand, n int) []int {
	all := events(c)
	e := all[n]
	if !plainReads(e) {
		return on(none)
	}
	var l []int
	if plainFirst(c.First, e.Addr) == e.Load {
		l = append(l, none)
	}
	for other, o := range all {
		if plainWrites(o) && o.Addr == e.Addr && o.Store == e.Load && other != n {
			l = append(l, other)
		}
	}
	return l
}

// ways goes through a candidate with all that may be read from, and all orders.
func ways(c api.Cand) func(yield func(api.Cand) bool) {
	return func(yield func(api.Cand) bool) {
		var more func(l []int) bool
		more = func(l []int) bool {
			if len(l) < len(c.From) {
				for _, n := range froms(c, len(l)) {
					if !more(append(slices.Clone(l), n)) {
						return false
					}
				}
				return true
			}
			for order := range orders(c.Order) {
				one := c
				one.From, one.Order = l, order
				if !yield(one) {
					return false
				}
			}
			return true
		}
		more(nil)
	}
}

// holdFull holds that a candidate that is allowed and full is plain; it answers whether it is allowed, and full.
func holdFull(t *testing.T, c api.Cand) (bool, bool) {
	t.Helper()
	ok, full := axiom.Ok(c), ppo.Full(c)
	if got := inter.Plain(c); got != plainPlain(c) || ok && full && !got {
		t.Fatalf("Plain(%s) = %t", tell(c), got)
	}
	return ok, full
}

func TestWhatIsAllowedAndFullIsPlain(t *testing.T) {
	d := dice(12)
	full, not, loose := 0, 0, 0
	for range 30000 {
		c := may(t, d.cand(2+d.below(3), pick(&d, 3, 4, 6), pick(&d, 0, 2, 3)))
		ok, is := holdFull(t, c)
		switch {
		case ok && is && len(c.Order) > 3:
			full++
		case ok && !is && !inter.Plain(c):
			loose++
		case !ok && is:
			not++
		}
	}
	if full < 300 || not < 300 || loose < 300 {
		t.Errorf("%d are allowed and full, %d full alone, %d allowed and not plain", full, not, loose)
	}
}

func TestEveryWayThatIsAllowedAndFullIsPlain(t *testing.T) {
	aq := func(e api.Event) api.Event { e.Aq = true; return e }
	rl := func(e api.Event) api.Event { e.Rl = true; return e }
	for name, c := range map[string]api.Cand{
		"stores, loads":   of(row{store(8, 0), fence(), load(16, 0)}, row{store(16, 0), fence(), load(8, 0)}),
		"a message":       of(row{store(8, 0), fence(), store(16, 0)}, row{load(16, 0), fence(), load(8, 0)}),
		"loads, stores":   of(row{load(8, 0), fence(), store(16, 0)}, row{load(16, 0), fence(), store(8, 0)}),
		"deps":            of(row{load(8, 0), hangs(store(16, 0), nil, on(0), nil)}, row{load(16, 0), hangs(store(8, 0), nil, nil, on(0))}),
		"one address":     of(row{store(8, 0), store(8, 0)}, row{amo(8, 0, 0), load(8, 0)}),
		"marks":           of(row{aq(rl(amo(8, 0, 0))), load(16, 0)}, row{store(16, 0), rl(amo(8, 0, 0))}),
		"a pair":          of(row{aq(lr(8, 0)), rl(sc(8, 0, 0)), fence(), load(16, 0)}, row{store(16, 0), fence(), store(8, 0)}),
		"pairs":           of(row{lr(8, 0), sc(8, 0, 0)}, row{lr(8, 0), sc(8, 0, 0)}, row{store(8, 0)}),
		"three harts":     of(row{store(8, 0)}, row{load(8, 0), fence(), store(16, 0)}, row{load(16, 0), fence(), load(8, 0)}),
		"a fence is less": of(row{store(8, 0), load(16, 0)}, row{store(16, 0), fence(), load(8, 0)}),
	} {
		met := map[[2]bool]int{}
		for one := range ways(c) {
			ok, full := holdFull(t, one)
			met[[2]bool{ok, full}]++
		}
		if met[[2]bool{true, true}] == 0 == (name != "a fence is less") || met[[2]bool{false, true}]+met[[2]bool{false, false}] == 0 {
			t.Errorf("%s: %v", name, met)
		}
	}
}

// runs goes through all runs of a hart whose loads find some of these values, by any wins.
func runs(t *testing.T, m api.Image, number int, values []uint64) []api.Trace {
	t.Helper()
	var l []api.Trace
	var more func(p api.Picks)
	more = func(p api.Picks) {
		switch run.Needs(m, number, p) {
		case 0:
			x, err := run.Run(m, number, p)
			if err != api.OK {
				t.Fatalf("Run: %d", err)
			}
			l = append(l, x)
		case 1:
			for _, v := range values {
				with := p
				with.Loads = append(slices.Clone(p.Loads), v)
				more(with)
			}
		case 2:
			for _, v := range []bool{true, false} {
				with := p
				with.Wins = append(slices.Clone(p.Wins), v)
				more(with)
			}
		}
	}
	more(api.Picks{Steps: 40})
	return l
}

// executions goes through all candidates of an image's runs, that may be.
func executions(t *testing.T, m api.Image, values []uint64) func(yield func(api.Cand) bool) {
	return func(yield func(api.Cand) bool) {
		var more func(rows []row) bool
		more = func(rows []row) bool {
			if len(rows) == len(m.Start) {
				for one := range ways(of(rows...)) {
					if !yield(one) {
						return false
					}
				}
				return true
			}
			met := map[string]bool{}
			for _, x := range runs(t, m, len(rows), values) {
				// Ways to lose an sc that could not win come to the same.
				if met[told(x.Events)] {
					continue
				}
				met[told(x.Events)] = true
				if !more(append(slices.Clone(rows), x.Events)) {
					return false
				}
			}
			return true
		}
		more(nil)
	}
}

func TestAWeaveOfTurnsFindsTheSameValues(t *testing.T) {
	f := "fence rw, rw"
	for name, c := range map[string]struct {
		harts  []lines
		values []uint64
	}{
		"stores, loads": {[]lines{{"sd x5, 0(x6)", f, "ld x10, 0(x7)"}, {"sd x5, 0(x7)", f, "ld x10, 0(x6)"}}, u(0, 5, 15)},
		"a message":     {[]lines{{"sd x5, 0(x6)", f, "sd x5, 0(x7)", f}, {"ld x10, 0(x7)", "addi x0, x10, 1", f, "ld x11, 0(x6)"}}, u(0, 5)},
		"a way":         {[]lines{{"ld x10, 0(x6)", "bne x10, x0, 8", "sd x5, 0(x7)"}, {"ld x10, 0(x7)", f, "sd x10, 0(x6)"}}, u(0, 5)},
		"amos":          {[]lines{{"amoadd.d.aqrl x10, x5, (x6)", "ld x11, 0(x7)"}, {"sd x5, 0(x7)", f, "amoadd.d x10, x5, (x6)"}}, u(0, 5, 15)},
		"scs":           {[]lines{{lrLine, scLine, f, "ld x10, 0(x7)"}, {"sd x5, 0(x7)", f, "sd x5, 0(x6)"}}, u(0, 5, 15)},
		"scs of both":   {[]lines{{lrLine, scLine}, {f, lrLine, scLine}}, u(0, 5, 15)},
		"a lost sc":     {[]lines{{"lr.d x1, (x6)", "sc.d x2, x5, (x7)", f, "sd x2, 0(x7)"}, {"ld x1, 0(x7)", f, "sd x5, 0(x6)"}}, u(0, 1, 15)},
	} {
		m := image(t, c.harts...)
		met := map[string]int{}
		for one := range executions(t, m, c.values) {
			ok, full := holdFull(t, one)
			met[fmt.Sprint(ok, full)]++
			turns, is := inter.Turns(m, one)
			if ok && full && !is {
				t.Fatalf("%s: no turns come to %s", name, tell(one))
			}
			if !is {
				continue
			}
			met["turns"]++
			want, _ := plainTurns(m, one)
			holdTurns(t, m, one, append(noTurns, want...))
			got, err := inter.Do(m, weaveOf(m, one, turns))
			if err != api.OK {
				t.Fatalf("%s: %d", name, err)
			}
			for hart := range one.Harts {
				if l := found(api.Woven{Cand: one}, hart); !slices.Equal(l, found(got, hart)) {
					t.Fatalf("%s: %v of %s lead to %s", name, turns, tell(one), told(got))
				}
			}
			if told(cand.Last(one)) != told(got.Memory) {
				t.Fatalf("%s: %v of %s lead to %s", name, turns, tell(one), told(got))
			}
		}
		if met["true true"] < 5 || met["turns"] < met["true true"] || met["false true"] < 5 {
			t.Errorf("%s: %v", name, met)
		}
	}
}

func TestEachWeaveIsOfTheTurnsOfItsCandidate(t *testing.T) {
	// Turns of a weave's candidate lead to it, and are their own turns.
	many(t, 13, 300, func(m api.Image, w api.Weave) {
		c := must(t, m, w).Cand
		turns, is := inter.Turns(m, c)
		if !is {
			t.Fatalf("no turns come to %s", tell(c))
		}
		again := must(t, m, weaveOf(m, c, turns)).Cand
		if l, is := inter.Turns(m, again); !is || !slices.Equal(l, turns) {
			t.Fatalf("%v, %t, want %v", l, is, turns)
		}
		for number, row := range c.Harts {
			if told(again.Harts[number]) != told(upToLast(row)) {
				t.Fatalf("%s, want %s", tell(again), tell(c))
			}
		}
	})
}
