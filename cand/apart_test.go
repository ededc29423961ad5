package cand_test

import (
	"slices"
	"testing"

	"fencepost/api"
	"fencepost/cand"
)

// Rules 3 and 6: an answer is new memory, what was handed in stays as it was, and nothing is kept.

// whole tells all that a candidate has, its lists' room to spare too.
func whole(c api.Cand) string {
	all := api.Cand{First: c.First[:cap(c.First)], From: c.From[:cap(c.From)], Order: c.Order[:cap(c.Order)]}
	for _, l := range c.Harts[:cap(c.Harts)] {
		var events []api.Event
		for _, e := range l[:cap(l)] {
			d := e.Deps
			e.Deps = api.Deps{Addr: d.Addr[:cap(d.Addr)], Data: d.Data[:cap(d.Data)], Way: d.Way[:cap(d.Way)]}
			events = append(events, e)
		}
		all.Harts = append(all.Harts, events)
	}
	return told(all)
}

// wide gives a candidate's lists room to spare, with something in it.
func wide(c api.Cand) api.Cand {
	c.First = append(slices.Clone(c.First), at(4, 4, 8, 8, 8, 9)...)[:len(c.First)]
	for hart, l := range c.Harts {
		c.Harts[hart] = append(slices.Clone(l), store(8, 77), api.Event{Kind: 99}, load(4, 4))[:len(l)]
	}
	c.Harts = append(slices.Clone(c.Harts), row{store(8, 5)}, row{fence()})[:len(c.Harts)]
	c.From, c.Order = roomy(c.From...), roomy(c.Order...)
	return c
}

// depsOf answers all lists of events' deps.
func depsOf(l []api.Event) []*[]int {
	var lists []*[]int
	for n := range l {
		d := &l[n].Deps
		lists = append(lists, &d.Addr, &d.Data, &d.Way)
	}
	return lists
}

// holdOwn holds that what is written into one of these lists, or into its room to spare, is not to be seen in another one.
func holdOwn(t *testing.T, lists []*[]int) {
	t.Helper()
	for number, p := range lists {
		room := (*p)[:cap(*p)]
		for place := range room {
			room[place] = -1000 - number
		}
	}
	for number, p := range lists {
		for _, n := range (*p)[:cap(*p)] {
			if n != -1000-number {
				t.Errorf("lists %d and %d share memory", number, -1000-n)
				return
			}
		}
	}
}

// holdApart holds all answers of a candidate to share no memory with it, nor with one another, and it to stay as it was.
func holdApart(t *testing.T, c api.Cand) {
	t.Helper()
	was := whole(c)
	cand.Check(c)
	cand.Number(c, 0, 0)
	cand.First(c, 8)
	cand.Same(c, c)
	all, again, places, also, last, then := cand.All(c), cand.All(c), cand.Places(c), cand.Places(c), cand.Last(c), cand.Last(c)
	wantAll, wantPlaces, wantLast := told(again), told(also), told(then)
	if whole(c) != was {
		t.Fatalf("asked of %s, it is %s", was, whole(c))
	}
	holdOwn(t, append(depsOf(all), &places))
	all, last = all[:cap(all)], last[:cap(last)]
	for n := range all {
		all[n] = api.Event{Kind: 88}
	}
	for n := range last {
		last[n] = api.Cell{Addr: 3, Value: 3}
	}
	if whole(c) != was {
		t.Fatalf("an answer shares memory with what was handed in: %s, now %s", was, whole(c))
	}
	hold := func(what, got, want string) {
		t.Helper()
		if got != want {
			t.Fatalf("%s, of %s: %s, want %s", what, was, got, want)
		}
	}
	hold("answers share memory", told(again), wantAll)
	hold("answers share memory", told(also), wantPlaces)
	hold("answers share memory", told(then), wantLast)
	// Asked once more, it answers the same.
	hold("asked again", told(cand.All(c)), wantAll)
	hold("asked again", told(cand.Places(c)), wantPlaces)
	hold("asked again", told(cand.Last(c)), wantLast)
	spoilAll(c)
	hold("spoilt behind the call", told(again), wantAll)
	hold("spoilt behind the call", told(also), wantPlaces)
	hold("spoilt behind the call", told(then), wantLast)
}

// spoilAll writes over all that a candidate has.
func spoilAll(c api.Cand) {
	for _, l := range c.Harts {
		for _, p := range depsOf(l) {
			for n := range *p {
				(*p)[n] = -55
			}
		}
		clear(l)
	}
	clear(c.First)
	clear(c.Harts)
	for n := range c.From {
		c.From[n] = -55
	}
	for n := range c.Order {
		c.Order[n] = -55
	}
}

func TestAnswersAreNewMemory(t *testing.T) {
	d := dice(11)
	for range 600 {
		holdApart(t, wide(copied(d.cand())))
	}
}

func TestQuestionsOfThoseThatMayNotBeChangeNothing(t *testing.T) {
	d := dice(12)
	for range 600 {
		c := copied(d.cand())
		d.spoil(&c)
		holdApart(t, wide(c))
	}
}

func TestAnswersShareNoMemoryWhereTheListsDo(t *testing.T) {
	// All lists of events' deps are parts of one list, the empty ones too; the rows are parts of one, Order and From begin at one place.
	l := []int{0, 1, 2, 3}
	events := slices.Concat(of(row{store(8, 0), store(8, 0), amo(8, 0, 0), store(8, 0), load(8, 0)}, row{load(8, 0), amo(8, 0, 0)})...)
	events[1].Deps = api.Deps{Addr: l[:1], Data: l[:1], Way: l[:1]}
	events[2].Deps = api.Deps{Addr: l[:2], Data: l[1:2], Way: l[:0]}
	events[3].Deps = api.Deps{Addr: l[:3], Data: l[:3], Way: l[2:3]}
	events[4].Deps = api.Deps{Addr: l[3:], Way: l[:]}
	events[6].Deps = api.Deps{Addr: l[:1], Data: l[:0], Way: l[4:]}
	numbers := []int{-1, -1, -1, -1, -1, -1, -1, 0, 1, 2, 3, 4, 5, 6}
	c := api.Cand{Harts: [][]api.Event{events[:5], events[5:], events[:0]}, From: numbers[:7], Order: numbers[7:]}
	hold(t, c, true)
	holdApart(t, c)
	// The same list twice.
	n := []int{1, 0}
	c = api.Cand{Harts: of(row{amo(8, 1, 1)}, row{amo(8, 1, 1)}), From: n, Order: n}
	hold(t, c, true)
	holdApart(t, c)
}

func TestAnswersHangOnWhatIsGivenAlone(t *testing.T) {
	d := dice(13)
	a, b := d.cand(), some()
	want := told(cand.All(a)) + told(cand.Places(a)) + told(cand.Last(a))
	for range 20 {
		holdAll(t, b)
		holdNone(t, api.Cand{})
		if got := told(cand.All(a)) + told(cand.Places(a)) + told(cand.Last(a)); got != want {
			t.Fatalf("%s, was %s", got, want)
		}
	}
}
