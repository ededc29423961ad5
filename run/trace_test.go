package run_test

import (
	"math"
	"slices"
	"testing"

	"fencepost/api"
	"fencepost/run"
)

// P8.3: Same, Cut

// full answers a trace that has something of each.
func full() api.Trace {
	t := api.Trace{
		Events: []api.Event{
			{Hart: 1, At: 0, Kind: api.EvLR, Addr: 8, Load: 5, Aq: true},
			{Hart: 1, At: 1, Kind: api.EvSC, Addr: 8, Store: 6, Rl: true, Deps: api.Deps{Addr: []int{0}, Data: []int{0}, Way: []int{0}}},
			{Hart: 1, At: 2, Kind: api.EvFence, Pred: 3, Succ: 1},
			{Hart: 1, At: 3, Kind: api.EvAmo, Addr: 16, Load: 1, Store: 2, Deps: api.Deps{Way: []int{0, 1}}},
		},
		Outs: []uint64{4, 4, 7},
		Marks: []api.Mark{
			{Kind: 1, Value: 1, At: 0}, {Kind: 2, Value: 2, At: 1}, {Kind: 3, Value: 3, At: 1}, {Kind: 4, Value: 4, At: 3}, {Kind: 5, Value: 5, At: 4},
		},
		End:   at(100, regs{1: 5, 31: 9}),
		Steps: 14,
	}
	t.End.End, t.End.Code = api.EndHalt, 3
	return t
}

// holdSame holds what Same tells of two traces, either way.
func holdSame(t *testing.T, a, b api.Trace, want bool) {
	t.Helper()
	if run.Same(a, b) != want || run.Same(b, a) != want {
		t.Errorf("Same(%s, %s) = %t, %t", told(a), told(b), run.Same(a, b), run.Same(b, a))
	}
}

func TestSame(t *testing.T) {
	holdSame(t, full(), full(), true)
	holdSame(t, api.Trace{}, api.Trace{}, true)
	holdSame(t, full(), api.Trace{}, false)
	// A nil list and an empty one are the same.
	holdSame(t, api.Trace{}, api.Trace{Events: []api.Event{}, Outs: []uint64{}, Marks: []api.Mark{}}, true)
	none := api.Trace{Events: []api.Event{{Deps: api.Deps{Addr: []int{}, Data: []int{}, Way: []int{}}}}}
	holdSame(t, api.Trace{Events: []api.Event{{}}}, none, true)
	// What stands in the room to spare does not count.
	long, short := full(), full()
	long.Events, long.Outs, long.Marks = long.Events[:2], long.Outs[:1], long.Marks[:3]
	short.Events, short.Outs, short.Marks = slices.Clone(short.Events[:2]), slices.Clone(short.Outs[:1]), slices.Clone(short.Marks[:3])
	holdSame(t, long, short, true)
}

func TestSameOfTracesThatDifferInOneThingAlone(t *testing.T) {
	for place, change := range []func(t *api.Trace){
		func(t *api.Trace) { t.Steps++ },
		func(t *api.Trace) { t.Steps = -t.Steps },
		func(t *api.Trace) { t.Steps += 1 << 32 },
		// The hart.
		func(t *api.Trace) { t.End.PC += 4 },
		func(t *api.Trace) { t.End.PC ^= 1 << 63 },
		func(t *api.Trace) { t.End.End = api.EndNone },
		func(t *api.Trace) { t.End.End = 7 },
		func(t *api.Trace) { t.End.Code++ },
		func(t *api.Trace) { t.End.X[0]++ },
		func(t *api.Trace) { t.End.X[1]++ },
		func(t *api.Trace) { t.End.X[31] ^= 1 << 63 },
		// Outs.
		func(t *api.Trace) { t.Outs = nil },
		func(t *api.Trace) { t.Outs = t.Outs[:2] },
		func(t *api.Trace) { t.Outs = t.Outs[1:] },
		func(t *api.Trace) { t.Outs = append(t.Outs, 7) },
		func(t *api.Trace) { t.Outs[0]++ },
		func(t *api.Trace) { t.Outs[2] ^= 1 << 63 },
		func(t *api.Trace) { slices.Reverse(t.Outs) },
		// Marks.
		func(t *api.Trace) { t.Marks = nil },
		func(t *api.Trace) { t.Marks = t.Marks[:4] },
		func(t *api.Trace) { t.Marks = append(t.Marks, t.Marks[4]) },
		func(t *api.Trace) { t.Marks[0].Kind++ },
		func(t *api.Trace) { t.Marks[2].Value ^= 1 << 63 },
		func(t *api.Trace) { t.Marks[4].At-- },
		func(t *api.Trace) { t.Marks[1], t.Marks[2] = t.Marks[2], t.Marks[1] },
		// Events.
		func(t *api.Trace) { t.Events = nil },
		func(t *api.Trace) { t.Events = t.Events[:3] },
		func(t *api.Trace) { t.Events = append(t.Events, t.Events[3]) },
		func(t *api.Trace) { t.Events[0], t.Events[3] = t.Events[3], t.Events[0] },
		func(t *api.Trace) { t.Events[3].Hart++ },
		func(t *api.Trace) { t.Events[0].At++ },
		func(t *api.Trace) { t.Events[3].Kind = api.EvLoad },
		func(t *api.Trace) { t.Events[0].Addr += 8 },
		func(t *api.Trace) { t.Events[3].Load++ },
		func(t *api.Trace) { t.Events[1].Store++ },
		func(t *api.Trace) { t.Events[0].Aq = false },
		func(t *api.Trace) { t.Events[1].Rl = false },
		func(t *api.Trace) { t.Events[2].Pred = 1 },
		func(t *api.Trace) { t.Events[2].Succ = 3 },
		func(t *api.Trace) { t.Events[1].Pair = 1 },
		func(t *api.Trace) { t.Events[1].Deps.Addr = nil },
		func(t *api.Trace) { t.Events[1].Deps.Data = []int{1} },
		func(t *api.Trace) { t.Events[3].Deps.Way = []int{0} },
		func(t *api.Trace) { t.Events[3].Deps.Way[1] = 2 },
	} {
		other := full()
		change(&other)
		if run.Same(full(), other) || run.Same(other, full()) {
			t.Errorf("change %d: %s is the same as %s", place, told(other), told(full()))
		}
	}
	// All else noughts.
	holdSame(t, api.Trace{}, api.Trace{Events: []api.Event{{}}}, false)
	holdSame(t, api.Trace{}, api.Trace{Outs: []uint64{0}}, false)
	holdSame(t, api.Trace{}, api.Trace{Marks: []api.Mark{{}}}, false)
	holdSame(t, api.Trace{}, api.Trace{Steps: 1}, false)
	holdSame(t, api.Trace{}, api.Trace{End: api.Hart{End: 1}}, false)
}

// holdCut holds what is cut of a trace: so many events, marks of these kinds, all else.
func holdCut(t *testing.T, from api.Trace, events, many int, marks ...int) {
	t.Helper()
	want := from
	want.Events, want.Marks = from.Events[:many], nil
	for _, kind := range marks {
		for _, m := range from.Marks {
			if m.Kind == kind {
				want.Marks = append(want.Marks, m)
			}
		}
	}
	if got := run.Cut(from, events); told(got) != told(want) {
		t.Errorf("Cut(%s, %d)\n= %s,\nwant %s", told(from), events, told(got), told(want))
	}
}

func TestCut(t *testing.T) {
	for _, none := range []int{0, -1, -2, math.MinInt, -1 << 32} {
		holdCut(t, full(), none, 0, 1)
	}
	// Marks at the cut stay, those behind it go.
	holdCut(t, full(), 1, 1, 1, 2, 3)
	holdCut(t, full(), 2, 2, 1, 2, 3)
	holdCut(t, full(), 3, 3, 1, 2, 3, 4)
	for _, all := range []int{4, 5, 6, 4096, 1 << 32, math.MaxInt} {
		holdCut(t, full(), all, 4, 1, 2, 3, 4, 5)
	}
	for _, any := range []int{-1, 0, 1, math.MaxInt} {
		holdCut(t, api.Trace{}, any, 0)
	}
}

func TestCutOfTracesThatAreNoRuns(t *testing.T) {
	// As many as there are then, not as many as were asked for.
	odd := full()
	odd.Marks = append(odd.Marks, api.Mark{Kind: 6, At: 5}, api.Mark{Kind: 7, At: -1}, api.Mark{Kind: 8, At: 2}, api.Mark{Kind: 9, At: math.MaxInt}, api.Mark{Kind: 10, At: math.MinInt})
	holdCut(t, odd, math.MaxInt, 4, 1, 2, 3, 4, 5, 7, 8, 10)
	holdCut(t, odd, 5, 4, 1, 2, 3, 4, 5, 7, 8, 10)
	holdCut(t, odd, 2, 2, 1, 2, 3, 7, 8, 10)
	holdCut(t, odd, -1, 0, 1, 7, 10)
	holdCut(t, odd, math.MinInt, 0, 1, 7, 10)
	odd.Events[0].Deps.Way, odd.Events[1].At, odd.Events[2].Kind = []int{5, -1, 5}, -7, 99
	odd.Steps, odd.End.End, odd.End.X[0] = -1, 50, 1
	holdCut(t, odd, 3, 3, 1, 2, 3, 4, 7, 8, 10)
	// Events behind those that are there are not.
	short := full()
	short.Events = short.Events[:1]
	holdCut(t, short, 3, 1, 1, 2, 3)
}

func TestCutOfMany(t *testing.T) {
	many(t, 6, 400, func(m api.Image, number int, p api.Picks) {
		whole := must(t, m, number, p)
		for _, events := range []int{-1, 0, 1, 2, 3, 5, len(whole.Events) - 1, len(whole.Events), len(whole.Events) + 1} {
			want := plainCut(whole, events)
			got := run.Cut(whole, events)
			if told(got) != told(want) || !run.Same(got, want) {
				t.Errorf("Cut(%s, %d)\n= %s,\nwant %s", told(whole), events, told(got), told(want))
			}
			if run.Same(got, whole) != (told(got) == told(whole)) {
				t.Errorf("Same(%s, %s) = %t", told(got), told(whole), run.Same(got, whole))
			}
			holdOwn(t, &got)
		}
	})
}

func TestCutGivesNewMemory(t *testing.T) {
	for events := range 6 {
		from := full()
		from.Events, from.Outs, from.Marks = append(from.Events, api.Event{}), append(from.Outs, 9), append(from.Marks, api.Mark{})
		from.Events, from.Outs, from.Marks = from.Events[:4], from.Outs[:3], from.Marks[:5]
		was := told(from)
		got := run.Cut(from, events)
		if told(from) != was {
			t.Errorf("Cut changed the trace: %s", told(from))
		}
		holdOwn(t, &got)
		spoil(&got)
		if told(from) != was || from.Outs[:4][3] != 9 || from.Marks[:6][5] != (api.Mark{}) || from.Events[:5][4].Kind != 0 {
			t.Errorf("what was cut shares memory with the trace: %s", told(from))
		}
		got = run.Cut(from, events)
		then := told(got)
		spoil(&from)
		if told(got) != then {
			t.Errorf("what was cut shares memory with the trace: %s", told(got))
		}
	}
}
