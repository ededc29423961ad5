package axiom_test

import (
	"fmt"
	"slices"
	"testing"

	"fencepost/api"
	"fencepost/axiom"
)

// Rules 3 and 6: what was handed in stays as it was, its room to spare is not looked at, and nothing is kept.

// whole tells all that a candidate has, its lists' room to spare too.
func whole(c api.Cand) string {
	var harts [][]api.Event
	for _, l := range c.Harts[:cap(c.Harts)] {
		l = slices.Clone(l[:cap(l)])
		for at := range l {
			d := &l[at].Deps
			*d = api.Deps{Addr: d.Addr[:cap(d.Addr)], Data: d.Data[:cap(d.Data)], Way: d.Way[:cap(d.Way)]}
		}
		harts = append(harts, l)
	}
	return fmt.Sprint(c.First[:cap(c.First)], harts, c.From[:cap(c.From)], c.Order[:cap(c.Order)])
}

// wide answers a candidate whose lists have room to spare, with something in it that would count.
func wide(c api.Cand) api.Cand {
	c = copied(c)
	c.First = append(c.First, api.Cell{Addr: 3}, api.Cell{Addr: 3})[:len(c.First)]
	for hart, l := range c.Harts {
		for at := range l {
			d := &l[at].Deps
			*d = api.Deps{Addr: roomy(d.Addr...), Data: roomy(d.Data...), Way: roomy(d.Way...)}
		}
		more := aq(rl(byAddr(amo(8), 0)))
		more.Hart, more.At = hart, len(l)
		c.Harts[hart] = append(slices.Clone(l), fence(15, 15), more, more)[:len(l)]
	}
	c.Harts = append(slices.Clone(c.Harts), []api.Event{store(8)}, nil)[:len(c.Harts)]
	c.From, c.Order = roomy(c.From...), roomy(c.Order...)
	return c
}

// answers tells what all calls answer of a candidate.
func answers(c api.Cand) string {
	l := []any{axiom.Judge(c), axiom.Ok(c), axiom.Line(axiom.Judge(c))}
	for n := -1; n <= len(c.From); n++ {
		l = append(l, axiom.Source(c, n))
	}
	return fmt.Sprint(l...)
}

func TestRoomToSpareIsNeitherLookedAtNorChanged(t *testing.T) {
	d := dice(8)
	met := map[int]int{}
	for n := range 600 {
		c := d.cand(1+d.below(4), 6)
		if n%5 == 0 {
			// One that may not be.
			c.From = append(slices.Clone(c.From), none)
		}
		want := answers(copied(c))
		met[axiom.Judge(c).Why]++
		c = wide(c)
		was := whole(c)
		if got := answers(c); got != want {
			t.Errorf("with room to spare: %s, without %s", got, want)
		}
		if got := whole(c); got != was {
			t.Errorf("asked of %s, it is %s", was, got)
		}
	}
	for why := range 5 {
		if met[why] < 5 {
			t.Errorf("met alone: %v", met)
		}
	}
}

func TestAnswersWhereListsShareMemory(t *testing.T) {
	// One list is both: two harts whose amos read from each other.
	c := of(row{amo(8)}, row{amo(8)})
	c.From = []int{1, 0}
	c.Order = c.From
	hold(t, c, not(api.WhyValue, 1, none))
	// All lists of the events are parts of one, the empty ones too; so are the rows; From and Order begin at one place.
	l := []int{0, 1, 2}
	c = from(of(row{store(8), load(16), amo(8), store(24)}, row{load(8), load(16)}), 2, 0, 4, 2)
	events := slices.Concat(c.Harts...)
	events[1].Deps = api.Deps{Addr: l[:1], Way: l[:0]}
	events[2].Deps = api.Deps{Addr: l[:2], Data: l[1:2], Way: l[:0]}
	events[3].Deps = api.Deps{Addr: l[:3], Data: l[1:2], Way: l[:3]}
	c.Harts = [][]api.Event{events[:4], events[4:], events[:0]}
	numbers := append(slices.Clone(c.From), c.Order...)
	c.From, c.Order = numbers[:6], numbers[6:]
	was := whole(c)
	hold(t, c, ok())
	holdSources(t, c, none, none, 0, none, 2, none)
	c.Order[0], c.Order[1] = 1, 0
	hold(t, c, not(api.WhyOrder, 0, 1))
	c.Order[0], c.Order[1] = 0, 1
	if got := whole(c); got != was {
		t.Errorf("asked of %s, it is %s", was, got)
	}
}

func TestAnswersHangOnWhatIsGivenAlone(t *testing.T) {
	d := dice(9)
	a, b := d.cand(2, 6), d.cand(3, 6)
	want := answers(a)
	for range 10 {
		answers(b)
		answers(api.Cand{})
		if got := answers(a); got != want {
			t.Fatalf("%s, was %s", got, want)
		}
	}
}
