package inter_test

import (
	"math"
	"slices"
	"testing"

	"fencepost/api"
	"fencepost/inter"
)

// P12.1: Check, and the errors of Do

// holdCheck holds whether a weave may be done over an image.
func holdCheck(t *testing.T, m api.Image, w api.Weave, want api.Errno) {
	t.Helper()
	if plainCheck(m, w) != (want == api.OK) {
		t.Fatalf("the reference tells otherwise than %d", want)
	}
	if err := inter.Check(m, w); err != want {
		t.Errorf("Check = %d, want %d", err, want)
	}
	got, err := inter.Do(m, w)
	if err != want {
		t.Errorf("Do: %d, want %d", err, want)
	}
	if err != api.OK && told(got) != told(api.Woven{}) {
		t.Errorf("Do: %d, with %s", err, told(got))
	}
}

// good answers an image and a weave that may be done over it.
func good(t *testing.T) (api.Image, api.Weave) {
	t.Helper()
	m := image(t, lines{"sd x5, 0(x6)", "ld x1, 0(x7)"}, lines{"sd x5, 0(x7)", "ld x1, 0(x6)"})
	return m, api.Weave{First: at(8, 1, 16, 2), Harts: []int{0, 1, 0, 1}, Wins: []bool{true}}
}

// Ways to spoil an image.
func spoilers() []func(m *api.Image) {
	return []func(m *api.Image){
		func(m *api.Image) { m.Base = 1 },
		func(m *api.Image) { m.Base = 2 },
		func(m *api.Image) { m.Base = 4095 },
		func(m *api.Image) { m.Base = 1 << 31 },
		func(m *api.Image) { m.Base = math.MaxUint64 - 3 },
		func(m *api.Image) { m.Words = make([]uint32, api.MaxCode+1) },
		func(m *api.Image) { m.Start = nil },
		func(m *api.Image) { m.Start = []api.Hart{} },
		func(m *api.Image) { m.Start = make([]api.Hart, api.MaxHarts+1) },
		func(m *api.Image) { m.Start[0].X[0] = 1 },
		func(m *api.Image) { m.Start[1].X[0] = 1 << 63 },
		func(m *api.Image) { m.Start[1].End = 1 },
		func(m *api.Image) { m.Start[0].End = 6 },
		func(m *api.Image) { m.Start[1].End = 7 },
		func(m *api.Image) { m.Start[1].End = -1 },
		func(m *api.Image) { m.Start[0].Code = 1 },
	}
}

// First lists that may not be.
func badFirsts() [][]api.Cell {
	return [][]api.Cell{
		at(1, 0), at(4, 1), at(12, 1), at(8, 1, 17, 1), at(math.MaxUint64, 1),
		at(8, 1, 8, 1), at(8, 0, 8, 0), at(0, 0, 0, 0), at(16, 1, 8, 1), at(8, 1, 24, 1, 16, 1), at(8, 1, 16, 1, 16, 1), at(1<<63, 1, 8, 1), at(8, 1, 16, 1, 0, 1),
	}
}

func TestCheck(t *testing.T) {
	m, w := good(t)
	holdCheck(t, m, w, api.OK)
	for _, first := range [][]api.Cell{nil, {}, at(0, 0), at(0, 1), at(8, 0, 16, 0), at(0, 5, 8, 0, 24, 1), at(8, 1, math.MaxUint64-7, 1)} {
		holdCheck(t, m, api.Weave{First: first, Harts: w.Harts}, api.OK)
	}
	holdCheck(t, m, api.Weave{}, api.OK)
	holdCheck(t, m, api.Weave{Harts: []int{}, Wins: []bool{}}, api.OK)
	holdCheck(t, m, api.Weave{Wins: slices.Repeat([]bool{false}, 1<<17)}, api.OK)
	for _, turn := range []int{-1, 2, 8, 9, math.MinInt, math.MaxInt} {
		holdCheck(t, m, api.Weave{Harts: []int{turn}}, api.OK)
	}
	// An image without words, or with as many as may be; of as many harts.
	holdCheck(t, api.Image{Start: m.Start}, w, api.OK)
	holdCheck(t, api.Image{Base: 1<<31 - 4, Words: make([]uint32, api.MaxCode), Start: make([]api.Hart, api.MaxHarts)}, w, api.OK)
}

func TestCheckOfAnImageThatMayNotBe(t *testing.T) {
	for _, spoil := range spoilers() {
		m, w := good(t)
		spoil(&m)
		holdCheck(t, m, w, api.ErrArg)
		holdCheck(t, m, api.Weave{}, api.ErrArg)
	}
	holdCheck(t, api.Image{}, api.Weave{}, api.ErrArg)
}

func TestCheckOfAFirstThatMayNotBe(t *testing.T) {
	for _, first := range badFirsts() {
		m, w := good(t)
		w.First = first
		holdCheck(t, m, w, api.ErrArg)
		holdCheck(t, m, api.Weave{First: first}, api.ErrArg)
	}
	// One that is wrong among many.
	m, w := good(t)
	for wrong := range 40 {
		w.First = nil
		for place := range 40 {
			w.First = append(w.First, api.Cell{Addr: uint64(place) * 16, Value: 1})
		}
		w.First[wrong].Addr += 4
		holdCheck(t, m, w, api.ErrArg)
		w.First[wrong].Addr += 4
		holdCheck(t, m, w, api.OK)
		w.First[wrong].Addr = 16 * 38
		holdCheck(t, m, w, map[bool]api.Errno{true: api.OK, false: api.ErrArg}[wrong == 38])
	}
}

func TestCheckOfManyTurns(t *testing.T) {
	m, w := good(t)
	w.Harts = make([]int, api.MaxSteps)
	holdCheck(t, m, w, api.OK)
	w.Harts = make([]int, api.MaxSteps+1)
	holdCheck(t, m, w, api.ErrArg)
	// Harts that ended count likewise.
	m.Words = nil
	holdCheck(t, m, w, api.ErrArg)
	w.Harts = make([]int, 1<<20)
	holdCheck(t, m, w, api.ErrArg)
}

func TestCheckOfSeveralThatAreWrong(t *testing.T) {
	for _, spoil := range spoilers() {
		for _, first := range badFirsts() {
			m, w := good(t)
			spoil(&m)
			w.First, w.Harts = first, make([]int, api.MaxSteps+1)
			holdCheck(t, m, w, api.ErrArg)
			w.Harts = nil
			holdCheck(t, m, w, api.ErrArg)
		}
	}
}

// P12.1: Same

// full answers what could have come of a weave, with something of each.
func full() api.Woven {
	event := func(hart int) api.Event {
		return api.Event{Hart: hart, At: 1, Kind: api.EvSC, Addr: 8, Load: 3, Store: 6, Aq: true, Rl: true, Pred: 1, Succ: 2, Pair: 0,
			Deps: api.Deps{Addr: []int{0}, Data: []int{0}, Way: []int{0, 1}}}
	}
	trace := func(hart int) api.Trace {
		return api.Trace{
			Events: []api.Event{{Hart: hart, Kind: api.EvLR, Addr: 8, Load: 5}, event(hart)},
			Outs:   []uint64{4, 4, 7},
			Marks:  []api.Mark{{Kind: 1, Value: 1}, {Kind: 2, Value: 2, At: 1}},
			End:    api.Hart{PC: 100, X: [32]uint64{1: 5, 31: 9}, End: api.EndHalt, Code: 3},
			Steps:  14,
		}
	}
	return api.Woven{
		Cand: api.Cand{
			First: at(8, 5, 16, 6),
			Harts: [][]api.Event{{{Kind: api.EvLR, Addr: 8, Load: 5}, event(0)}, {event(1)}},
			From:  []int{-1, -1, 1},
			Order: []int{0, 1, 2},
		},
		Traces: []api.Trace{trace(0), trace(1)},
		Memory: at(8, 6, 16, 6),
	}
}

// holdSame holds what Same tells of two, either way.
func holdSame(t *testing.T, a, b api.Woven, want bool) {
	t.Helper()
	if inter.Same(a, b) != want || inter.Same(b, a) != want {
		t.Errorf("Same(%s, %s) = %t, %t", told(a), told(b), inter.Same(a, b), inter.Same(b, a))
	}
}

func TestSame(t *testing.T) {
	holdSame(t, full(), full(), true)
	holdSame(t, api.Woven{}, api.Woven{}, true)
	holdSame(t, full(), api.Woven{}, false)
	// A nil list and an empty one are the same.
	empty := api.Woven{Cand: api.Cand{First: at()[:0:0], Harts: [][]api.Event{}, From: []int{}, Order: []int{}}, Traces: []api.Trace{}, Memory: []api.Cell{}}
	holdSame(t, api.Woven{}, empty, true)
	one := api.Woven{Cand: api.Cand{Harts: [][]api.Event{nil}}, Traces: []api.Trace{{}}}
	other := api.Woven{Cand: api.Cand{Harts: [][]api.Event{{}}}, Traces: []api.Trace{{Events: []api.Event{}, Outs: []uint64{}, Marks: []api.Mark{}}}}
	holdSame(t, one, other, true)
	holdSame(t, one, api.Woven{}, false)
	// What stands in the room to spare does not count.
	long, short := full(), full()
	long.Memory, long.Traces, long.Cand.Order = long.Memory[:1], long.Traces[:1], long.Cand.Order[:1]
	short.Memory, short.Traces, short.Cand.Order = slices.Clone(short.Memory[:1]), slices.Clone(short.Traces[:1]), slices.Clone(short.Cand.Order[:1])
	holdSame(t, long, short, true)
	m, w := good(t)
	a, b := must(t, m, w), must(t, m, w)
	holdSame(t, a, b, true)
	w.Harts = []int{0, 0, 1, 1}
	holdSame(t, a, must(t, m, w), false)
}

func TestSameOfTwoThatDifferInOneThingAlone(t *testing.T) {
	for place, change := range []func(w *api.Woven){
		// The candidate.
		func(w *api.Woven) { w.Cand.First = nil },
		func(w *api.Woven) { w.Cand.First = w.Cand.First[:1] },
		func(w *api.Woven) { w.Cand.First = append(w.Cand.First, api.Cell{Addr: 24}) },
		func(w *api.Woven) { w.Cand.First[0].Addr += 1 << 40 },
		func(w *api.Woven) { w.Cand.First[1].Value ^= 1 << 63 },
		func(w *api.Woven) { w.Cand.Harts = nil },
		func(w *api.Woven) { w.Cand.Harts = w.Cand.Harts[:1] },
		func(w *api.Woven) { w.Cand.Harts = append(w.Cand.Harts, nil) },
		func(w *api.Woven) { slices.Reverse(w.Cand.Harts) },
		func(w *api.Woven) { w.Cand.Harts[0] = w.Cand.Harts[0][:1] },
		func(w *api.Woven) { w.Cand.Harts[1] = append(w.Cand.Harts[1], api.Event{}) },
		func(w *api.Woven) { w.Cand.Harts[1][0].Hart++ },
		func(w *api.Woven) { w.Cand.Harts[1][0].At++ },
		func(w *api.Woven) { w.Cand.Harts[1][0].Kind++ },
		func(w *api.Woven) { w.Cand.Harts[1][0].Addr += 8 },
		func(w *api.Woven) { w.Cand.Harts[1][0].Load++ },
		func(w *api.Woven) { w.Cand.Harts[1][0].Store++ },
		func(w *api.Woven) { w.Cand.Harts[1][0].Aq = false },
		func(w *api.Woven) { w.Cand.Harts[1][0].Rl = false },
		func(w *api.Woven) { w.Cand.Harts[1][0].Pred = 2 },
		func(w *api.Woven) { w.Cand.Harts[1][0].Succ = 1 },
		func(w *api.Woven) { w.Cand.Harts[1][0].Pair = 1 },
		func(w *api.Woven) { w.Cand.Harts[0][1].Deps.Addr = nil },
		func(w *api.Woven) { w.Cand.Harts[0][1].Deps.Data[0] = 1 },
		func(w *api.Woven) { w.Cand.Harts[0][1].Deps.Way[1] = 2 },
		func(w *api.Woven) { w.Cand.From = nil },
		func(w *api.Woven) { w.Cand.From[2] = 0 },
		func(w *api.Woven) { w.Cand.From = append(w.Cand.From, -1) },
		func(w *api.Woven) { w.Cand.Order = nil },
		func(w *api.Woven) { w.Cand.Order = w.Cand.Order[:2] },
		func(w *api.Woven) { slices.Reverse(w.Cand.Order) },
		// The traces.
		func(w *api.Woven) { w.Traces = nil },
		func(w *api.Woven) { w.Traces = w.Traces[:1] },
		func(w *api.Woven) { w.Traces = append(w.Traces, api.Trace{}) },
		func(w *api.Woven) { slices.Reverse(w.Traces) },
		func(w *api.Woven) { w.Traces[1].Steps++ },
		func(w *api.Woven) { w.Traces[0].Outs = w.Traces[0].Outs[:2] },
		func(w *api.Woven) { w.Traces[1].Outs[2]++ },
		func(w *api.Woven) { w.Traces[0].Marks = nil },
		func(w *api.Woven) { w.Traces[1].Marks[0].Kind++ },
		func(w *api.Woven) { w.Traces[1].Marks[0].Value ^= 1 << 63 },
		func(w *api.Woven) { w.Traces[1].Marks[1].At-- },
		func(w *api.Woven) { w.Traces[0].End.PC += 4 },
		func(w *api.Woven) { w.Traces[0].End.X[31]++ },
		func(w *api.Woven) { w.Traces[1].End.End = api.EndBreak },
		func(w *api.Woven) { w.Traces[1].End.Code ^= 1 << 63 },
		func(w *api.Woven) { w.Traces[0].Events = w.Traces[0].Events[:1] },
		func(w *api.Woven) { w.Traces[0].Events[0].Load++ },
		func(w *api.Woven) { w.Traces[1].Events[1].Deps.Way = []int{0} },
		// Memory.
		func(w *api.Woven) { w.Memory = nil },
		func(w *api.Woven) { w.Memory = w.Memory[:1] },
		func(w *api.Woven) { w.Memory = append(w.Memory, api.Cell{}) },
		func(w *api.Woven) { w.Memory[0].Addr = 0 },
		func(w *api.Woven) { w.Memory[0].Value++ },
		func(w *api.Woven) { w.Memory[1].Value ^= 1 << 63 },
		func(w *api.Woven) { slices.Reverse(w.Memory) },
	} {
		other := full()
		change(&other)
		if inter.Same(full(), other) || inter.Same(other, full()) {
			t.Errorf("change %d: %s is the same as %s", place, told(other), told(full()))
		}
	}
}
