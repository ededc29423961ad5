package ppo_test

import (
	"slices"
	"testing"

	"fencepost/api"
	"fencepost/cand"
	"fencepost/ppo"
)

// P10.3: it never goes against program order, nor from hart to hart; a fence more, or a mark more, never takes one away.

func TestNeverAgainstProgramOrderNorFromHartToHart(t *testing.T) {
	d := dice(4)
	met := 0
	for range 120 {
		c := d.cand(1+d.below(4), 7)
		all := cand.All(c)
		ahead := func(a, b int) bool {
			return all[a].Hart == all[b].Hart && all[a].At < all[b].At && all[a].Kind != api.EvFence && all[b].Kind != api.EvFence
		}
		for _, p := range ppo.Pairs(c) {
			if !ahead(p[0], p[1]) {
				t.Errorf("Pairs(%+v) has %v", c, p)
			}
		}
		for a := range all {
			for b := range all {
				if ahead(a, b) {
					continue
				}
				met++
				if ppo.Rule(c, a, b) > 0 || ppo.Whole(c, a, b) {
					t.Errorf("%d leads to %d in %+v", a, b, c)
				}
				for rule := 1; rule <= rules; rule++ {
					if ppo.Holds(c, a, b, rule) {
						t.Errorf("rule %d holds of %d, %d in %+v", rule, a, b, c)
					}
				}
			}
		}
	}
	if met < 5000 {
		t.Errorf("%d alone", met)
	}
}

// held tells which rules hold of each two numbers of a candidate, these being what they are called now.
func held(c api.Cand, now []int) [][2]int {
	var l [][2]int
	for a := range now {
		for b := range now {
			for rule := 1; rule <= rules; rule++ {
				if ppo.Holds(c, now[a], now[b], rule) {
					l = append(l, [2]int{a*len(now) + b, rule})
				}
			}
		}
	}
	return l
}

// holdMore holds that all that is preserved in a candidate is so in another one, in which numbers are called as they are now, and tells whether more is.
func holdMore(t *testing.T, was, is api.Cand, now []int) bool {
	t.Helper()
	if err := cand.Check(is); err != api.OK {
		t.Fatalf("%+v may not be: %d", is, err)
	}
	before, after := ppo.Pairs(was), ppo.Pairs(is)
	for _, p := range before {
		if !slices.Contains(after, [2]int{now[p[0]], now[p[1]]}) {
			t.Errorf("%v is preserved in %+v, not in %+v", p, was, is)
		}
	}
	more := held(is, now)
	for _, h := range held(was, numbered(len(now))) {
		if !slices.Contains(more, h) {
			t.Errorf("rule %d holds of %d, %d in %+v, not in %+v", h[1], h[0]/len(now), h[0]%len(now), was, is)
		}
	}
	if ppo.Full(was) && !ppo.Full(is) {
		t.Errorf("%+v is full, not %+v", was, is)
	}
	return len(after) > len(before)
}

// numbered answers so many numbers, from 0 on.
func numbered(many int) []int {
	var l []int
	for n := range many {
		l = append(l, n)
	}
	return l
}

func TestAFenceMoreTakesNoneAway(t *testing.T) {
	d := dice(5)
	more, same := 0, 0
	for range 60 {
		c := d.cand(1+d.below(2), 6)
		for hart, l := range c.Harts {
			for at := range len(l) + 1 {
				is, now := put(c, hart, at, fence(d.below(16), d.below(16)))
				if holdMore(t, c, is, now) {
					more++
				} else {
					same++
				}
			}
		}
	}
	if more < 30 || same < 30 {
		t.Errorf("more are preserved by %d fences, not by %d", more, same)
	}
}

func TestAMarkMoreTakesNoneAway(t *testing.T) {
	d := dice(6)
	more := 0
	for range 120 {
		c := d.cand(1+d.below(2), 6)
		for hart, l := range c.Harts {
			for at, e := range l {
				for _, mark := range []func(api.Event) api.Event{aq, rl} {
					if e.Kind != api.EvLR && e.Kind != api.EvSC && e.Kind != api.EvAmo {
						continue
					}
					is := copied(c)
					is.Harts[hart][at] = mark(is.Harts[hart][at])
					if holdMore(t, c, is, numbered(len(c.From))) {
						more++
					}
				}
			}
		}
	}
	if more < 50 {
		t.Errorf("more are preserved by %d marks alone", more)
	}
}

func TestAFenceOfAllPreservesAll(t *testing.T) {
	// With a fence ahead of each event it is full, and each is preserved ahead of each behind it.
	d := dice(7)
	for range 100 {
		c := d.cand(1+d.below(2), 5)
		for hart := range c.Harts {
			for at := len(c.Harts[hart]) - 1; at >= 0; at-- {
				c, _ = put(c, hart, at, fence(r|w, r|w))
			}
		}
		if !ppo.Full(c) {
			t.Errorf("not full: %+v", c)
		}
		p := plainly(c)
		for a := range p.all {
			for b := range p.all {
				if got := ppo.Rule(c, a, b) > 0; got != p.ahead(a, b) || got != ppo.Whole(c, a, b) {
					t.Errorf("%d, %d of %+v: %t", a, b, c, got)
				}
			}
		}
	}
}
