package axiom_test

import (
	"slices"
	"testing"

	"fencepost/api"
	"fencepost/axiom"
	"fencepost/cand"
)

// P11.3: an order alone tells what is read.

// everyWay goes through a candidate's events and order with all that may be read from by what was loaded.
func everyWay(c api.Cand) func(yield func(api.Cand) bool) {
	p := plainly(c)
	return func(yield func(api.Cand) bool) {
		var more func(froms []int) bool
		more = func(froms []int) bool {
			if len(froms) == len(p.all) {
				c.From = slices.Clone(froms)
				return yield(c)
			}
			for _, n := range p.froms(len(froms)) {
				if !more(append(slices.Clone(froms), n)) {
					return false
				}
			}
			return true
		}
		more(nil)
	}
}

// ways counts them.
func ways(c api.Cand) int {
	p, many := plainly(c), 1
	for n := range p.all {
		many *= len(p.froms(n))
	}
	return many
}

// holdOneFrom holds that at most one of all ways to read is allowed, and which one that is; it answers whether one is.
func holdOneFrom(t *testing.T, c api.Cand) bool {
	t.Helper()
	var sources []int
	for n := range c.From {
		sources = append(sources, axiom.Source(c, n))
	}
	allowed := 0
	for one := range everyWay(c) {
		if err := cand.Check(one); err != api.OK {
			t.Fatalf("%s may not be: %d", told(one), err)
		}
		j := axiom.Judge(one)
		if want := plainly(one).judge(); j != want {
			t.Errorf("Judge(%s) = %+v, want %+v", told(one), j, want)
		}
		if !j.OK {
			continue
		}
		allowed++
		if !slices.Equal(one.From, sources) {
			t.Errorf("%s is allowed, its sources are %v", told(one), sources)
		}
	}
	if allowed > 1 {
		t.Errorf("%d ways to read are allowed in %s", allowed, told(c))
	}
	return allowed == 1
}

func TestAnOrderAloneTellsWhatIsRead(t *testing.T) {
	d := dice(6)
	one, many, none := 0, 0, 0
	for one+none < 400 {
		c := d.cand(1+d.below(4), 4)
		if ways(c) < 2 || ways(c) > 200 {
			continue
		}
		if ways(c) > 10 {
			many++
		}
		if holdOneFrom(t, c) {
			one++
		} else {
			none++
		}
	}
	if one < 50 || many < 50 || none < 50 {
		t.Errorf("one way of several is allowed in %d, none in %d, of many ways in %d", one, none, many)
	}
}

func TestEveryOrderAloneTellsWhatIsRead(t *testing.T) {
	for _, c := range []api.Cand{
		of(row{store(8), load(8)}, row{store(8), load(8)}),
		of(row{store(8), load(8)}, row{amo(8)}),
		of(row{amo(8)}, row{amo(8)}, row{amo(8)}),
		of(row{lr(8), sc(8, 0)}, row{store(8)}, row{load(8)}),
		of(row{store(8), lr(8), sc(8, 1)}, row{store(8)}),
		of(row{load(8), load(8)}, row{store(8)}, row{store(8)}),
		of(row{lr(8), sc(8, 0)}, row{lr(8), sc(8, 0)}),
	} {
		allowed := 0
		for order := range orders(c.Order) {
			if holdOneFrom(t, in(c, order...)) {
				allowed++
			}
		}
		if allowed == 0 {
			t.Errorf("no order of %s is allowed", told(c))
		}
	}
}

func TestAnotherFromIsNotAllowed(t *testing.T) {
	d := dice(7)
	met := 0
	for range 1500 {
		c := d.cand(1+d.below(4), 6)
		if !axiom.Ok(c) {
			continue
		}
		for n := range c.From {
			for _, other := range plainly(c).froms(n) {
				wrong := from(c, n, other)
				if other == c.From[n] {
					continue
				}
				met++
				// Who reads otherwise may be preserved otherwise too, so that the order may be told.
				if j := axiom.Judge(wrong); j.OK || j != plainly(wrong).judge() {
					t.Errorf("Judge(%s) = %+v", told(wrong), j)
				}
			}
		}
	}
	if met < 500 {
		t.Errorf("%d alone", met)
	}
}
