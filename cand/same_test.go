package cand_test

import (
	"slices"
	"testing"

	"fencepost/api"
	"fencepost/cand"
)

// P9.1: Same

// holdSame holds two candidates to be the same, or others, either way.
func holdSame(t *testing.T, a, b api.Cand, same bool) {
	t.Helper()
	if cand.Same(a, b) != same || cand.Same(b, a) != same {
		t.Errorf("Same is %t, %t of\n%+v,\n%+v", cand.Same(a, b), cand.Same(b, a), a, b)
	}
}

func TestSame(t *testing.T) {
	d := dice(8)
	for range 500 {
		c := d.cand()
		holdSame(t, c, c, true)
		holdSame(t, c, copied(c), true)
	}
	holdSame(t, example(0, 1), example(0, 1), true)
	holdSame(t, api.Cand{}, api.Cand{}, true)
}

func TestSameOfNilListsAndEmptyOnes(t *testing.T) {
	a := api.Cand{Harts: [][]api.Event{nil, {{Kind: api.EvStore}}}}
	b := api.Cand{
		First: []api.Cell{}, From: []int{}, Order: []int{},
		Harts: [][]api.Event{{}, {{Kind: api.EvStore, Deps: api.Deps{Addr: []int{}, Data: []int{}, Way: []int{}}}}},
	}
	holdSame(t, a, b, true)
	holdSame(t, api.Cand{}, api.Cand{Harts: [][]api.Event{}}, true)
	// A hart without events is one.
	holdSame(t, api.Cand{}, api.Cand{Harts: [][]api.Event{nil}}, false)
	holdSame(t, api.Cand{Harts: [][]api.Event{nil}}, api.Cand{Harts: [][]api.Event{nil, nil}}, false)
}

func TestSameOfCandidatesThatDifferInOneFieldAlone(t *testing.T) {
	base := some()
	base.Harts[3][2].Deps = api.Deps{Addr: []int{0}, Data: []int{0, 1}, Way: []int{1}}
	base.Harts[4][0].Kind, base.Harts[4][0].Rl = api.EvLR, true
	hold(t, base, true)
	for at, change := range []func(c *api.Cand){
		func(c *api.Cand) { c.First = nil },
		func(c *api.Cand) { c.First = c.First[:2] },
		func(c *api.Cand) { c.First = c.First[1:] },
		func(c *api.Cand) { c.First = append(c.First, api.Cell{Addr: 40, Value: 1}) },
		// A nought more or less is another list, too.
		func(c *api.Cand) { c.First = append(c.First, api.Cell{Addr: 40}) },
		func(c *api.Cand) { c.First = slices.Delete(c.First, 1, 2) },
		func(c *api.Cand) { c.First[0].Addr += 8 },
		func(c *api.Cand) { c.First[0].Addr ^= 1 << 63 },
		func(c *api.Cand) { c.First[1].Value = 1 },
		func(c *api.Cand) { c.First[2].Value ^= 1 << 63 },
		func(c *api.Cand) { c.First[0], c.First[1] = c.First[1], c.First[0] },
		func(c *api.Cand) { c.Harts = nil },
		func(c *api.Cand) { c.Harts = append(c.Harts, nil) },
		func(c *api.Cand) { c.Harts = c.Harts[:4] },
		func(c *api.Cand) { c.Harts = slices.Delete(c.Harts, 1, 2) },
		func(c *api.Cand) { c.Harts[1], c.Harts[2] = c.Harts[2], c.Harts[1] },
		func(c *api.Cand) { c.Harts[0] = c.Harts[0][:2] },
		func(c *api.Cand) { c.Harts[2] = nil },
		func(c *api.Cand) { c.Harts[2] = append(c.Harts[2], c.Harts[3][3]) },
		// The same events, dealt out otherwise.
		func(c *api.Cand) { c.Harts[0], c.Harts[1] = c.Harts[0][:2], c.Harts[0][2:] },
		func(c *api.Cand) { c.Harts[0][0].Hart = 1 },
		func(c *api.Cand) { c.Harts[0][1].At = 2 },
		func(c *api.Cand) { c.Harts[0][0].Kind = api.EvLoad },
		func(c *api.Cand) { c.Harts[0][0].Addr = 0 },
		func(c *api.Cand) { c.Harts[0][2].Load = 1 },
		func(c *api.Cand) { c.Harts[4][1].Store ^= 1 << 63 },
		func(c *api.Cand) { c.Harts[3][0].Aq = false },
		func(c *api.Cand) { c.Harts[4][0].Rl = false },
		func(c *api.Cand) { c.Harts[3][3].Pred = 1 },
		func(c *api.Cand) { c.Harts[0][1].Succ = 0 },
		func(c *api.Cand) { c.Harts[3][1].Pair = 1 },
		func(c *api.Cand) { c.Harts[3][2].Deps.Addr = nil },
		func(c *api.Cand) { c.Harts[3][2].Deps.Data = []int{0} },
		func(c *api.Cand) { c.Harts[3][2].Deps.Way = []int{0, 1} },
		func(c *api.Cand) { c.From = nil },
		func(c *api.Cand) { c.From = c.From[:9] },
		func(c *api.Cand) { c.From = append(c.From, -1) },
		func(c *api.Cand) { c.From[4] = -1 },
		func(c *api.Cand) { c.From[9] = 0 },
		func(c *api.Cand) { c.From[0] += 1 << 32 },
		func(c *api.Cand) { c.Order = nil },
		func(c *api.Cand) { c.Order = c.Order[:6] },
		func(c *api.Cand) { c.Order = append(c.Order, 1) },
		func(c *api.Cand) { c.Order[0], c.Order[6] = c.Order[6], c.Order[0] },
		func(c *api.Cand) { c.Order[3] = 3 },
		func(c *api.Cand) { c.From, c.Order = c.Order, c.From },
	} {
		one := copied(base)
		change(&one)
		if told(one) == told(base) {
			t.Fatalf("change %d is none", at)
		}
		holdSame(t, one, base, false)
		// Of ones that may not be, as well.
		wrong := copied(base)
		wrong.Order = append(wrong.Order, 77)
		one = copied(wrong)
		change(&one)
		if told(one) != told(wrong) {
			holdSame(t, one, wrong, false)
		}
	}
}

func TestSameOfThoseThatMayNotBe(t *testing.T) {
	d := dice(9)
	for range 500 {
		c := copied(d.cand())
		d.spoil(&c)
		holdSame(t, c, copied(c), true)
		other := copied(c)
		d.spoil(&other)
		holdSame(t, c, other, told(c) == told(other))
	}
	none := api.Cand{Harts: of(nil, nil, nil, nil, nil, nil, nil, nil, nil)}
	holdSame(t, none, copied(none), true)
	holdSame(t, none, api.Cand{}, false)
}

func TestSameOfMany(t *testing.T) {
	d := dice(10)
	var l []api.Cand
	for range 80 {
		// Few events, few values: some of them are the same.
		c := api.Cand{Harts: [][]api.Event{d.row(0, 1)}}
		l = append(l, d.finish(c))
	}
	met := 0
	for _, a := range l {
		for _, b := range l {
			holdSame(t, a, b, told(a) == told(b))
			if told(a) == told(b) {
				met++
			}
		}
	}
	if met <= len(l) {
		t.Errorf("%d pairs are the same alone", met)
	}
}

func TestSameLooksAtNoSpareRoom(t *testing.T) {
	a, b := example(0, 1), example(0, 1)
	a.From, b.From = []int{-1, 0, 5}[:2], []int{-1, 0, 6}[:2]
	a.Order, b.Order = []int{0, 1, 5}[:2], []int{0, 1, 6, 7}[:2]
	a.First, b.First = at(8, 1)[:0], at(8, 2)[:0]
	a.Harts[1], b.Harts[1] = append(a.Harts[1], fence())[:1], append(b.Harts[1], store(8, 1))[:1]
	a.Harts, b.Harts = append(a.Harts, row{fence()})[:2], append(b.Harts, row{}, nil)[:2]
	holdSame(t, a, b, true)
	hold(t, a, true)
}
