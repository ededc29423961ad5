package ppo_test

import (
	"fmt"
	"slices"
	"testing"

	"fencepost/api"
	"fencepost/ppo"
)

// Rules 3 and 6: an answer is new memory, what was handed in stays as it was, and nothing is kept.

// whole tells all that a candidate has, its lists' room to spare too.
func whole(c api.Cand) string {
	var harts [][]api.Event
	for _, l := range c.Harts[:cap(c.Harts)] {
		l = slices.Clone(l[:cap(l)])
		for at := range l {
			d := &l[at].Deps
			*d = api.Deps{Addr: d.Addr[:cap(d.Addr)], Data: d.Data[:cap(d.Data)], Way: d.Way[:cap(d.Way)]}
		}
		harts = append(harts, l)
	}
	return fmt.Sprint(c.First[:cap(c.First)], harts, c.From[:cap(c.From)], c.Order[:cap(c.Order)])
}

// wide answers a candidate whose lists have room to spare, with something in it that would count.
func wide(c api.Cand) api.Cand {
	c = copied(c)
	c.First = append(c.First, api.Cell{Addr: 3}, api.Cell{Addr: 3})[:len(c.First)]
	for hart, l := range c.Harts {
		for at := range l {
			d := &l[at].Deps
			*d = api.Deps{Addr: roomy(d.Addr...), Data: roomy(d.Data...), Way: roomy(d.Way...)}
		}
		more := aq(rl(byAddr(amo(8), 0)))
		more.Hart, more.At = hart, len(l)
		c.Harts[hart] = append(slices.Clone(l), fence(15, 15), more, more)[:len(l)]
	}
	c.Harts = append(slices.Clone(c.Harts), []api.Event{store(8)}, nil)[:len(c.Harts)]
	c.From, c.Order = roomy(c.From...), roomy(c.Order...)
	return c
}

// answers tells what all calls answer of a candidate.
func answers(c api.Cand) string {
	var rules, leads []string
	for a := -1; a <= len(c.From); a++ {
		for b := -1; b <= len(c.From); b++ {
			rules = append(rules, fmt.Sprint(ppo.Rule(c, a, b)))
			for rule := range rules[:min(len(rules), 15)] {
				leads = append(leads, fmt.Sprint(ppo.Holds(c, a, b, rule)))
			}
			leads = append(leads, fmt.Sprint(ppo.Whole(c, a, b)))
		}
	}
	return fmt.Sprint(rules, leads, ppo.Pairs(c), ppo.Full(c))
}

func TestRoomToSpareIsNeitherLookedAtNorChanged(t *testing.T) {
	d := dice(8)
	for n := range 60 {
		c := d.cand(1+d.below(3), 5)
		if n%3 == 0 {
			// One that may not be.
			c.From = append(c.From, -1)
		}
		want := answers(copied(c))
		c = wide(c)
		was := whole(c)
		if got := answers(c); got != want {
			t.Errorf("with room to spare: %s, without %s", got, want)
		}
		if got := whole(c); got != was {
			t.Errorf("asked of %s, it is %s", was, got)
		}
	}
}

func TestPairsAreNewMemory(t *testing.T) {
	d := dice(9)
	for range 200 {
		c := wide(d.cand(1+d.below(3), 6))
		was := whole(c)
		one, other := ppo.Pairs(c), ppo.Pairs(c)
		want := slices.Clone(other)
		room := one[:cap(one)]
		for n := range room {
			room[n] = [2]int{-7, -7}
		}
		if !slices.Equal(other, want) || whole(c) != was || !slices.Equal(ppo.Pairs(c), want) {
			t.Errorf("what is written into the pairs of %s is to be seen elsewhere", was)
		}
		// What becomes of the candidate behind the call.
		for n := range c.From {
			c.From[n] = 77
		}
		for _, l := range c.Harts {
			clear(l)
		}
		if !slices.Equal(other, want) {
			t.Errorf("the pairs of %s hang on what it is now", was)
		}
	}
}

func TestAnswersWhereListsShareMemory(t *testing.T) {
	// All lists of the events are parts of one, the empty ones too; so are the rows; From and Order begin at one place.
	l := []int{0, 1, 2, 3}
	events := row{
		store(8), byAddr(load(16), l[:1]...), byAddr(amo(8), l[:2]...), byWay(byData(byAddr(store(24), l[:3]...), l[1:2]...), l[:]...),
		load(8), byAddr(load(16), l[:1]...),
	}
	c := of(events[:4], events[4:])
	events = slices.Concat(c.Harts...)
	events[1].Deps = api.Deps{Addr: l[:1], Way: l[:0]}
	events[2].Deps = api.Deps{Addr: l[:2], Data: l[1:2], Way: l[:0]}
	events[3].Deps = api.Deps{Addr: l[:3], Data: l[1:2], Way: l[:3]}
	c.Harts = [][]api.Event{events[:4], events[4:], events[:0]}
	c.Order = []int{0, 1, 2, 3, 4, 5}
	numbers := append([]int{-1, -1, -1, -1, -1, -1}, c.Order...)
	c.From, c.Order = numbers[:6], numbers[6:]
	was := whole(c)
	hold(t, c)
	if got := whole(c); got != was {
		t.Errorf("asked of %s, it is %s", was, got)
	}
	// One list is both: two harts whose amos read from each other.
	c = of(row{amo(8)}, row{amo(8)})
	c.From = []int{1, 0}
	c.Order = c.From
	hold(t, c)
}

func TestAnswersHangOnWhatIsGivenAlone(t *testing.T) {
	d := dice(10)
	a, b := d.cand(2, 6), d.cand(3, 6)
	want := answers(a)
	for range 10 {
		answers(b)
		answers(api.Cand{})
		if got := answers(a); got != want {
			t.Fatalf("%s, was %s", got, want)
		}
	}
}
