package cand_test

import (
	"math"
	"slices"
	"testing"

	"fencepost/api"
	"fencepost/cand"
)

// P9.1: All, Number, Places; P9.3: numbers and places are one to one.

// some answers a candidate of five harts, one of them without events.
func some() api.Cand {
	return api.Cand{
		First: at(0, 7, 8, 0, 32, 9),
		Harts: of(
			row{store(8, 1), fence(), load(16, 0)},
			nil,
			row{fence()},
			row{lr(8, 1), sc(8, 2, 0), amo(8, 2, 0), fence()},
			row{load(32, 9), store(24, 3)},
		),
		From:  []int{-1, -1, -1, -1, 0, -1, 5, -1, -1, -1},
		Order: []int{9, 0, 4, 2, 5, 6, 8},
	}
}

func TestAll(t *testing.T) {
	c := some()
	hold(t, c, true)
	var want []api.Event
	for _, l := range c.Harts {
		want = append(want, l...)
	}
	all := cand.All(c)
	if told(all) != told(want) || len(all) != 10 || all[3].Hart != 2 || all[5].Kind != api.EvSC || all[9].Store != 3 {
		t.Errorf("%+v", all)
	}
	for _, none := range []api.Cand{{Harts: make([][]api.Event, 1)}, {Harts: make([][]api.Event, 8)}, {First: at(8, 1), Harts: [][]api.Event{{}, {}}}} {
		if all := cand.All(none); len(all) != 0 {
			t.Errorf("of no events: %+v", all)
		}
	}
}

func TestAllHasWhatEventsHangOn(t *testing.T) {
	c := example(0, 1)
	c.Harts[0] = append(c.Harts[0], api.Event{At: 1, Kind: api.EvAmo, Addr: 8, Deps: api.Deps{Addr: []int{0}, Data: []int{0}}}, api.Event{At: 2, Kind: api.EvStore, Deps: api.Deps{Addr: []int{0, 1}, Data: []int{1}, Way: []int{0, 1}}})
	c.From, c.Order = []int{-1, -1, -1, 0}, []int{3, 2, 0, 1}
	hold(t, c, true)
	d := cand.All(c)[2].Deps
	if !slices.Equal(d.Addr, []int{0, 1}) || !slices.Equal(d.Data, []int{1}) || !slices.Equal(d.Way, []int{0, 1}) {
		t.Errorf("%+v", d)
	}
}

func TestNumber(t *testing.T) {
	c := some()
	for _, x := range []struct {
		hart, at, n int
		err         api.Errno
	}{
		{0, 0, 0, api.OK}, {0, 2, 2, api.OK}, {2, 0, 3, api.OK}, {3, 0, 4, api.OK}, {3, 3, 7, api.OK}, {4, 0, 8, api.OK}, {4, 1, 9, api.OK},
		// One behind the last one of a hart, or of all.
		{0, 3, 0, api.ErrNone}, {1, 0, 0, api.ErrNone}, {2, 1, 0, api.ErrNone}, {4, 2, 0, api.ErrNone},
		// Another hart's.
		{0, 4, 0, api.ErrNone}, {1, 3, 0, api.ErrNone}, {4, 5, 0, api.ErrNone},
		// Of no hart, of no place.
		{-1, 0, 0, api.ErrNone}, {5, 0, 0, api.ErrNone}, {6, 0, 0, api.ErrNone}, {8, 0, 0, api.ErrNone}, {0, -1, 0, api.ErrNone}, {4, -1, 0, api.ErrNone},
		{math.MinInt, 0, 0, api.ErrNone}, {math.MaxInt, 0, 0, api.ErrNone}, {0, math.MinInt, 0, api.ErrNone}, {0, math.MaxInt, 0, api.ErrNone},
		{-1, -1, 0, api.ErrNone}, {5, 5, 0, api.ErrNone}, {1 << 32, 0, 0, api.ErrNone}, {0, 1 << 32, 0, api.ErrNone},
	} {
		if n, err := cand.Number(c, x.hart, x.at); n != x.n || err != x.err {
			t.Errorf("Number(%d, %d) = %d, %d, want %d, %d", x.hart, x.at, n, err, x.n, x.err)
		}
	}
	// That it may not be comes ahead of that there is none.
	c.Order = nil
	for _, p := range []place{{0, 0}, {5, 0}, {-1, 0}, {0, 3}, {0, -1}} {
		if n, err := cand.Number(c, p.hart, p.at); n != 0 || err != api.ErrArg {
			t.Errorf("Number(%d, %d) = %d, %d", p.hart, p.at, n, err)
		}
	}
}

func TestPlaces(t *testing.T) {
	// The first and the last in Order, and fences.
	if got, want := cand.Places(some()), []int{1, -1, 3, -1, 2, 4, 5, -1, 6, 0}; !slices.Equal(got, want) {
		t.Errorf("Places = %v, want %v", got, want)
	}
	if got := cand.Places(example(0, 1)); !slices.Equal(got, []int{0, 1}) {
		t.Errorf("Places = %v", got)
	}
	c := example(0, 1)
	c.Order = []int{1, 0}
	if got := cand.Places(c); !slices.Equal(got, []int{1, 0}) {
		t.Errorf("Places = %v", got)
	}
	c = api.Cand{Harts: of(row{fence()}, row{fence(), fence()}), From: []int{-1, -1, -1}}
	if got := cand.Places(c); !slices.Equal(got, []int{-1, -1, -1}) {
		t.Errorf("Places = %v", got)
	}
	if got := cand.Places(api.Cand{Harts: make([][]api.Event, 3)}); len(got) != 0 {
		t.Errorf("Places = %v", got)
	}
}

func TestNumbersAndPlacesAreOneToOne(t *testing.T) {
	d := dice(6)
	for range 800 {
		c := d.cand()
		all, places := cand.All(c), cand.Places(c)
		if len(all) != len(places) {
			t.Fatalf("%d events, %d places", len(all), len(places))
		}
		// From an event to its number, and back.
		next := 0
		for hart, l := range c.Harts {
			for at := range l {
				n, err := cand.Number(c, hart, at)
				if n != next || err != api.OK || all[n].Hart != hart || all[n].At != at {
					t.Fatalf("Number(%+v, %d, %d) = %d, %d", c, hart, at, n, err)
				}
				next++
			}
		}
		// From a number to its place, and back; each place is one's.
		met := 0
		for n, place := range places {
			if place >= 0 && c.Order[place] != n || (place < 0) != (all[n].Kind == api.EvFence) || place < -1 {
				t.Fatalf("Places(%+v) = %v", c, places)
			}
			if place >= 0 {
				met++
			}
		}
		if next != len(all) || met != len(c.Order) {
			t.Fatalf("%d numbers, %d places: %+v", next, met, c)
		}
	}
}
