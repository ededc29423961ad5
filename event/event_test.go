package event_test

import (
	"math"
	"slices"
	"testing"

	"fencepost/api"
	"fencepost/event"
)

// P7.1: Check, Reads, Writes, Memory, Same

// holdCheck tells whether Check says that an event may be, or may not be.
func holdCheck(t *testing.T, e api.Event, may bool) {
	t.Helper()
	want := api.ErrArg
	if may {
		want = api.OK
	}
	if err := event.Check(e); err != want {
		t.Errorf("Check(%+v) = %d, want %d", e, err, want)
	}
}

func TestCheckOfEachKindWithItsFields(t *testing.T) {
	deps := api.Deps{Addr: []int{0, 3}, Data: []int{1}, Way: []int{0, 1, 2, 3}}
	dataless := api.Deps{Addr: deps.Addr, Way: deps.Way}
	for _, e := range []api.Event{
		{Hart: 1, At: 4, Kind: api.EvLoad, Addr: 4096, Load: 10, Deps: dataless},
		{Hart: 2, At: 4, Kind: api.EvStore, Addr: 4096, Store: 10, Deps: deps},
		{Hart: 3, At: 4, Kind: api.EvLR, Addr: 4096, Load: 10, Aq: true, Rl: true, Deps: dataless},
		{Hart: 4, At: 4, Kind: api.EvSC, Addr: 4096, Store: 10, Aq: true, Rl: true, Pair: 2, Deps: deps},
		{Hart: 5, At: 4, Kind: api.EvAmo, Addr: 4096, Load: 10, Store: 11, Aq: true, Rl: true, Deps: deps},
		{Hart: 6, At: 4, Kind: api.EvFence, Pred: 3, Succ: 12},
	} {
		holdCheck(t, e, true)
	}
	// With noughts alone; an sc has a pair ahead of it.
	for _, k := range kinds() {
		holdCheck(t, api.Event{Kind: k.number}, k.name != "sc")
		holdCheck(t, api.Event{At: 1, Kind: k.number}, true)
		holdCheck(t, base(k), true)
	}
}

func TestCheckOfFieldsThatAKindHasNot(t *testing.T) {
	others := api.Event{
		Addr: 8, Load: 1, Store: 1, Aq: true, Rl: true, Pred: 1, Succ: 1, Pair: 1,
		Deps: api.Deps{Addr: []int{0}, Data: []int{0}, Way: []int{0}},
	}
	highest := api.Event{
		Addr: 1 << 63, Load: 1 << 63, Store: 1 << 63, Aq: true, Rl: true, Pred: 8, Succ: 15, Pair: 8,
		Deps: api.Deps{Addr: []int{8}, Data: []int{1, 8}, Way: []int{7}},
	}
	met := 0
	for _, k := range kinds() {
		for _, other := range []api.Event{others, highest} {
			for name, v := range fieldsOf(&other) {
				if name == "Hart" || name == "At" || name == "Kind" {
					continue
				}
				e := base(k)
				fieldsOf(&e)[name].Set(v)
				holdCheck(t, e, k.has(name))
				// Of an event with noughts in all else.
				e = api.Event{At: 9, Kind: k.number}
				fieldsOf(&e)[name].Set(v)
				holdCheck(t, e, k.has(name))
				if !k.has(name) {
					met++
				}
			}
		}
	}
	if met != 2*(7+6+5+3+3+9) {
		t.Errorf("%d fields are not a kind's", met)
	}
}

func TestCheckTakesEmptyLists(t *testing.T) {
	for _, k := range kinds() {
		e := base(k)
		for _, p := range lists(&e) {
			if len(*p) == 0 {
				*p = []int{-1, -1}[:0]
			}
		}
		holdCheck(t, e, true)
	}
}

func TestCheckOfHartsAndPlaces(t *testing.T) {
	for _, k := range kinds() {
		for hart := range api.MaxHarts {
			e := base(k)
			e.Hart = hart
			holdCheck(t, e, true)
		}
		for _, hart := range []int{-1, -2, 8, 9, 255, 256, 1 << 32, math.MinInt, math.MaxInt} {
			e := base(k)
			e.Hart = hart
			holdCheck(t, e, false)
		}
		for _, at := range []int{9, 10, 4095, 4096, 4097, 1 << 32, math.MaxInt} {
			e := base(k)
			e.At = at
			holdCheck(t, e, true)
		}
		for _, at := range []int{-1, -9, math.MinInt} {
			holdCheck(t, api.Event{At: at, Kind: k.number, Pair: min(at, 0)}, false)
			holdCheck(t, api.Event{At: at, Kind: k.number}, false)
		}
	}
	for _, number := range noKinds() {
		holdCheck(t, api.Event{At: 9, Kind: number}, false)
		for _, k := range kinds() {
			e := base(k)
			e.Kind = number
			holdCheck(t, e, false)
		}
	}
	holdCheck(t, api.Event{}, false)
}

func TestCheckOfAddresses(t *testing.T) {
	for _, k := range kinds() {
		for _, from := range []uint64{0, 8, 4096, 1 << 32, 1 << 63, math.MaxUint64 - 7} {
			for offset := range uint64(8) {
				e := base(k)
				e.Addr = from + offset
				holdCheck(t, e, e.Addr == 0 || k.memory() && offset == 0)
			}
		}
	}
}

func TestCheckOfFences(t *testing.T) {
	for set := range 16 {
		holdCheck(t, api.Event{Kind: api.EvFence, Pred: set}, true)
		holdCheck(t, api.Event{Kind: api.EvFence, Succ: set}, true)
		holdCheck(t, api.Event{Kind: api.EvFence, Pred: set, Succ: 15 - set}, true)
	}
	for _, set := range []int{-1, -15, -16, 16, 17, 31, 1 << 8, 1 << 32, math.MinInt, math.MaxInt} {
		holdCheck(t, api.Event{Kind: api.EvFence, Pred: set}, false)
		holdCheck(t, api.Event{Kind: api.EvFence, Succ: set}, false)
		holdCheck(t, api.Event{Kind: api.EvFence, Pred: set, Succ: 3}, false)
		holdCheck(t, api.Event{Kind: api.EvFence, Pred: 3, Succ: set}, false)
	}
}

func TestCheckOfPairs(t *testing.T) {
	for _, at := range []int{0, 1, 2, 9, 4096, math.MaxInt} {
		for _, pair := range []int{math.MinInt, -4096, -2, -1, 0, 1, 2, at - 1, at, at + 1, math.MaxInt} {
			holdCheck(t, api.Event{At: at, Kind: api.EvSC, Pair: pair}, 0 <= pair && pair < at)
			for _, k := range kinds() {
				if k.name != "sc" {
					holdCheck(t, api.Event{At: at, Kind: k.number, Pair: pair}, pair == 0)
				}
			}
		}
	}
}

func TestCheckOfDeps(t *testing.T) {
	good := [][]int{nil, {}, {0}, {5}, {8}, {0, 1}, {0, 8}, {7, 8}, {0, 1, 2, 3, 4, 5, 6, 7, 8}}
	crooked := [][]int{
		// They fall.
		{1, 0}, {8, 7}, {0, 2, 1}, {2, 0, 1}, {3, 4, 5, 0},
		// A number twice.
		{0, 0}, {5, 5}, {1, 2, 2}, {1, 1, 2}, {8, 8}, {1, 2, 1},
		// One below 0.
		{-1}, {-1, 0}, {-1, 5}, {0, -1}, {math.MinInt}, {math.MinInt, 8}, {-2, -1},
		// One that is the place, or above it.
		{9}, {10}, {0, 9}, {8, 9}, {8, 10}, {9, 10}, {9, 8}, {math.MaxInt}, {0, 1 << 32}, {10, 0},
	}
	for _, k := range kinds() {
		e := base(k)
		for at, p := range lists(&e) {
			name := []string{"Deps.Addr", "Deps.Data", "Deps.Way"}[at]
			was := *p
			for _, l := range good {
				*p = roomy(l...)
				holdCheck(t, e, k.has(name) || len(l) == 0)
			}
			for _, l := range crooked {
				*p = l
				holdCheck(t, e, false)
			}
			*p = was
		}
	}
	// Of the first event nothing can be ahead.
	for _, k := range kinds() {
		for at := range 3 {
			e := api.Event{Kind: k.number}
			*lists(&e)[at] = []int{0}
			holdCheck(t, e, false)
		}
	}
}

func TestCheckOfMany(t *testing.T) {
	for e := range events(2, 40000) {
		holdCheck(t, e, plainCheck(e))
	}
}

func TestReadsWritesMemory(t *testing.T) {
	hold := func(e api.Event, reads, writes, memory bool) {
		t.Helper()
		if event.Reads(e) != reads || event.Writes(e) != writes || event.Memory(e) != memory {
			t.Errorf("%+v: %t, %t, %t, want %t, %t, %t", e, event.Reads(e), event.Writes(e), event.Memory(e), reads, writes, memory)
		}
	}
	hold(api.Event{Kind: api.EvLoad}, true, false, true)
	hold(api.Event{Kind: api.EvStore}, false, true, true)
	hold(api.Event{Kind: api.EvLR}, true, false, true)
	hold(api.Event{Kind: api.EvSC}, false, true, true)
	hold(api.Event{Kind: api.EvAmo}, true, true, true)
	hold(api.Event{Kind: api.EvFence}, false, false, false)
	// The Kind alone counts.
	d := dice(3)
	for range 2000 {
		e := d.event()
		for _, k := range kinds() {
			e.Kind = k.number
			hold(e, k.reads, k.writes, k.name != "fence")
		}
		for _, number := range noKinds() {
			e.Kind = number
			hold(e, false, false, false)
		}
	}
}

func TestSame(t *testing.T) {
	for _, k := range kinds() {
		if !event.Same(base(k), base(k)) {
			t.Errorf("%+v is not the same as it is", base(k))
		}
	}
	for e := range events(4, 2000) {
		other := e
		for _, p := range lists(&other) {
			*p = append([]int{}, *p...)
		}
		if !event.Same(e, e) || !event.Same(e, other) || !event.Same(other, e) {
			t.Errorf("%+v is not the same as it is", e)
		}
	}
	// A nil list and an empty one are the same.
	empty := api.Event{Deps: api.Deps{Addr: []int{}, Data: []int{}, Way: []int{}}}
	if !event.Same(empty, api.Event{}) || !event.Same(api.Event{}, empty) {
		t.Errorf("nil lists and empty ones are not the same")
	}
}

// differ holds two events to be others.
func differ(t *testing.T, a, b api.Event) {
	t.Helper()
	if event.Same(a, b) || event.Same(b, a) {
		t.Errorf("%+v is the same as %+v", a, b)
	}
}

func TestSameOfEventsThatDifferInOneFieldAlone(t *testing.T) {
	changes := []func(e *api.Event){
		func(e *api.Event) { e.Hart++ }, func(e *api.Event) { e.Hart-- }, func(e *api.Event) { e.Hart += 1 << 32 },
		func(e *api.Event) { e.At++ }, func(e *api.Event) { e.At = -e.At }, func(e *api.Event) { e.At += 1 << 40 },
		func(e *api.Event) { e.Kind = e.Kind%6 + 1 }, func(e *api.Event) { e.Kind += 256 }, func(e *api.Event) { e.Kind = 0 },
		func(e *api.Event) { e.Addr ^= 8 }, func(e *api.Event) { e.Addr ^= 1 }, func(e *api.Event) { e.Addr ^= 1 << 63 },
		func(e *api.Event) { e.Load ^= 1 }, func(e *api.Event) { e.Load ^= 1 << 63 },
		func(e *api.Event) { e.Store ^= 1 }, func(e *api.Event) { e.Store ^= 1 << 63 },
		func(e *api.Event) { e.Load, e.Store = e.Store+1, e.Load+1 },
		func(e *api.Event) { e.Aq = !e.Aq }, func(e *api.Event) { e.Rl = !e.Rl },
		func(e *api.Event) { e.Pred ^= 1 }, func(e *api.Event) { e.Pred ^= 16 }, func(e *api.Event) { e.Succ ^= 8 }, func(e *api.Event) { e.Succ = ^e.Succ },
		func(e *api.Event) { e.Pair++ }, func(e *api.Event) { e.Pair = ^e.Pair },
	}
	for _, k := range kinds() {
		for at, change := range changes {
			e := base(k)
			change(&e)
			if plainSame(e, base(k)) {
				t.Fatalf("change %d is none of %s", at, k.name)
			}
			differ(t, e, base(k))
			// All else noughts.
			a, b := api.Event{}, api.Event{}
			change(&b)
			// Some changes are none of a nought.
			if !plainSame(a, b) {
				differ(t, a, b)
			}
		}
	}
}

func TestSameOfEventsThatDifferInOneListAlone(t *testing.T) {
	e := base(kinds()[4])
	for at := range lists(&e) {
		for _, l := range [][]int{nil, {}, {7}, {2}, {2, 6}, {1, 5}, {2, 5, 8}, {0, 5}, {0, 5, 7}, {1, 2}, {5, 2}, {2, 5, 5}, {-1}} {
			other := e
			*lists(&other)[at] = l
			differ(t, e, other)
		}
	}
	// What is in one list is not what is in another one.
	for at := range 3 {
		for to := range at {
			a, b := api.Event{At: 9}, api.Event{At: 9}
			*lists(&a)[at], *lists(&b)[to] = []int{2, 5}, []int{2, 5}
			differ(t, a, b)
		}
	}
	// Room to spare does not count.
	a, b := api.Event{}, api.Event{}
	a.Deps.Way, b.Deps.Way = []int{1, 2}[:1], []int{1, 3}[:1]
	if !event.Same(a, b) {
		t.Errorf("%+v is not the same with other numbers in its spare room", a)
	}
}

func TestSameOfMany(t *testing.T) {
	l := slices.Collect(events(5, 300))
	for _, a := range l {
		for _, b := range l {
			if got := event.Same(a, b); got != plainSame(a, b) {
				t.Errorf("Same(%+v, %+v) = %t", a, b, got)
			}
		}
	}
}

// Rule 3: what is handed in stays as it was.
func TestQuestionsChangeNothing(t *testing.T) {
	for e := range events(6, 2000) {
		other := e
		in := lists(&e)
		was := whole(in)
		event.Check(e)
		event.Reads(e)
		event.Writes(e)
		event.Memory(e)
		event.Text(e)
		event.Same(e, other)
		event.Row(e.Hart, []api.Event{e, other})
		if !sameLists(was, whole(in)) {
			t.Fatalf("asked of %+v, it changed", e)
		}
	}
}
