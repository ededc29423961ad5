package inter_test

import (
	"math"
	"slices"
	"testing"

	"fencepost/api"
	"fencepost/code"
	"fencepost/inter"
	"fencepost/run"
)

// P12.1: Do

// holdFound does a weave, and holds what each hart's events loaded.
func holdFound(t *testing.T, m api.Image, w api.Weave, want ...[]uint64) api.Woven {
	t.Helper()
	got := must(t, m, w)
	for number, l := range want {
		if f := found(got, number); !slices.Equal(f, l) {
			t.Errorf("%v by %+v: hart %d found %v, want %v", code.Dump(m.Words), w, number, f, l)
		}
	}
	return got
}

// on is a list of numbers; u of what is found.
func on(l ...int) []int      { return l }
func u(l ...uint64) []uint64 { return l }

// holdNumbers holds From and Order.
func holdNumbers(t *testing.T, w api.Woven, from, order []int) {
	t.Helper()
	if !slices.Equal(w.Cand.From, from) || !slices.Equal(w.Cand.Order, order) {
		t.Errorf("From %v, Order %v, want %v, %v, of %s", w.Cand.From, w.Cand.Order, from, order, told(w))
	}
}

func holdMemory(t *testing.T, w api.Woven, want ...uint64) {
	t.Helper()
	if !slices.Equal(w.Memory, at(want...)) {
		t.Errorf("memory %v, want %v", w.Memory, want)
	}
}

func TestExamples(t *testing.T) {
	m := image(t, lines{"sd x5, 0(x6)", "ld x7, 0(x8)"}, lines{"sd x5, 0(x6)", "ld x7, 0(x8)"})
	for number := range m.Start {
		m.Start[number].X[5] = 1
	}
	m.Start[1].X[6], m.Start[1].X[8] = m.Start[1].X[8], m.Start[1].X[6]
	got := holdFound(t, m, weave(0, 1, 0, 1), u(1), u(1))
	holdNumbers(t, got, on(-1, 2, -1, 0), on(0, 2, 1, 3))
	got = holdFound(t, m, weave(0, 0, 1, 1), u(0), u(1))
	holdNumbers(t, got, on(-1, -1, -1, 0), on(0, 1, 2, 3))
	holdFound(t, m, weave(1, 1, 0, 0), u(1), u(0))
	holdMemory(t, got, 8, 1, 24, 1)
}

func TestDoTellsTheWhole(t *testing.T) {
	// A trace with all that there is, another one that ended.
	m := image(t, lines{"ld x1, 0(x6)", "addi x0, x1, 3", "addi x10, x1, 1", "ecall", "sd x1, 0(x7)", "fence w, w", "amoadd.d.aq x2, x5, (x7)"},
		lines{"amoswap.d.rl x1, x5, (x6)", "ebreak"})
	got := must(t, m, api.Weave{First: at(8, 7, 40, 0, 48, 9), Harts: on(0, 0, 0, 0, 1, 1, 1, 0, 0, 0)})
	a := []api.Event{
		{Kind: api.EvLoad, Addr: 8, Load: 7},
		{At: 1, Kind: api.EvStore, Addr: 16, Store: 7, Deps: api.Deps{Data: on(0)}},
		{At: 2, Kind: api.EvFence, Pred: 1, Succ: 1},
		{At: 3, Kind: api.EvAmo, Addr: 16, Load: 7, Store: 12, Aq: true},
	}
	b := []api.Event{{Hart: 1, Kind: api.EvAmo, Addr: 8, Load: 7, Store: 15, Rl: true}}
	h := m.Start[0]
	h.PC, h.X[1], h.X[2], h.X[10] = 28, 7, 7, 8
	k := m.Start[1]
	k.PC, k.X[1], k.End = 36, 7, api.EndBreak
	want := api.Woven{
		Cand: api.Cand{First: at(8, 7, 40, 0, 48, 9), Harts: [][]api.Event{a, b}, From: on(-1, -1, -1, 1, -1), Order: on(0, 4, 1, 3)},
		Traces: []api.Trace{
			{Events: a, Outs: u(8), Marks: []api.Mark{{Kind: 3, Value: 7, At: 1}}, End: h, Steps: 7},
			{Events: b, End: k, Steps: 2},
		},
		Memory: at(8, 15, 16, 12, 48, 9),
	}
	if told(got) != told(want) {
		t.Errorf("%s,\nwant %s", told(got), told(want))
	}
	// No turns.
	got = must(t, m, api.Weave{First: at(8, 7, 40, 0)})
	want = api.Woven{
		Cand:   api.Cand{First: at(8, 7, 40, 0), Harts: [][]api.Event{nil, nil}},
		Traces: []api.Trace{{End: m.Start[0]}, {End: m.Start[1]}},
		Memory: at(8, 7),
	}
	if told(got) != told(want) {
		t.Errorf("%s,\nwant %s", told(got), told(want))
	}
	holdMemory(t, must(t, m, weave()))
}

func TestDoOfTurnsByNumber(t *testing.T) {
	// Each hart tells who it is; which harts are meant.
	for _, c := range []struct{ turn, harts, hart int }{
		{0, 1, 0}, {1, 1, 0}, {-1, 1, 0}, {math.MinInt, 1, 0}, {math.MaxInt, 1, 0},
		{0, 2, 0}, {1, 2, 1}, {2, 2, 0}, {3, 2, 1}, {-1, 2, 1}, {-2, 2, 0}, {-3, 2, 1}, {math.MinInt, 2, 0}, {math.MaxInt, 2, 1},
		{0, 3, 0}, {2, 3, 2}, {3, 3, 0}, {5, 3, 2}, {-1, 3, 2}, {-2, 3, 1}, {-3, 3, 0}, {-4, 3, 2}, {300, 3, 0}, {-301, 3, 2},
		// 2^63 is 2 and a multiple of 3, 3 and one of 5, 1 and one of 7.
		{math.MinInt, 3, 1}, {math.MaxInt, 3, 1}, {math.MinInt, 5, 2}, {math.MaxInt, 5, 2}, {math.MinInt, 7, 6}, {math.MaxInt, 7, 0},
		{7, 8, 7}, {8, 8, 0}, {-1, 8, 7}, {-8, 8, 0}, {-9, 8, 7}, {math.MinInt, 8, 0}, {math.MaxInt, 8, 7},
	} {
		m := image(t, slices.Repeat([]lines{{"sd x5, 0(x6)"}}, c.harts)...)
		got, err := inter.Do(m, weave(c.turn))
		if err != api.OK || len(got.Cand.Order) != 1 || len(got.Traces) != c.harts {
			t.Fatalf("turn %d of %d harts: %d, %s", c.turn, c.harts, err, told(got))
		}
		for number := range c.harts {
			if stored := len(got.Cand.Harts[number]) == 1; stored != (number == c.hart) || got.Traces[number].Steps != len(got.Cand.Harts[number]) {
				t.Errorf("turn %d of %d harts: %s", c.turn, c.harts, told(got))
			}
		}
	}
}

func TestDoOfHartsThatEnded(t *testing.T) {
	for _, c := range []struct {
		line string
		end  int
	}{
		{"ebreak", api.EndBreak}, {"lw x1, 0(x6)", api.EndSize}, {"sb x1, 0(x6)", api.EndSize}, {"amoadd.w x1, x2, (x6)", api.EndSize},
		{"ld x1, 4(x6)", api.EndAlign}, {"sd x1, 1(x6)", api.EndAlign}, {"lr.d x1, (x5)", api.EndAlign}, {"jal x0, 2", api.EndFetch}, {".00000000", api.EndFetch}, {".ffffffff", api.EndFetch},
	} {
		m := image(t, lines{"sd x5, 0(x6)", c.line, "sd x5, 0(x7)"}, lines{"ld x1, 0(x6)", "ld x2, 0(x7)"})
		// Turns of one that ended do nothing, but the others go on.
		got := holdFound(t, m, weave(0, 0, 0, 1, 0, 1, 0, 0), nil, u(5, 0))
		if x := got.Traces[0]; x.End.End != c.end || x.Steps != 2 || x.End.PC != 4 {
			t.Errorf("%q: %s", c.line, told(x))
		}
		holdNumbers(t, got, on(-1, 0, -1), on(0, 1, 2))
		holdMemory(t, got, 8, 5)
	}
	// A halt has a code; a call that there is not has none.
	m := image(t, lines{"addi x10, x5, 4", "addi x17, x0, 0", "ecall", "sd x5, 0(x6)"}, lines{"addi x17, x0, 2", "ecall", "sd x5, 0(x6)"})
	got := must(t, m, weave(0, 0, 1, 1, 0, 0, 0, 1, 1))
	for number, want := range []api.Hart{{End: api.EndHalt, Code: 9, PC: 8}, {End: api.EndCall, PC: 24}} {
		if h := got.Traces[number].End; h.End != want.End || h.Code != want.Code || h.PC != want.PC || got.Traces[number].Steps != 3-number {
			t.Errorf("hart %d: %s", number, told(got.Traces[number]))
		}
	}
	holdMemory(t, got)
	// More turns than there are steps; behind the last word.
	m = image(t, lines{"sd x5, 0(x6)"}, lines{"sd x5, 0(x7)"})
	m.Words = m.Words[:3]
	got = must(t, m, api.Weave{Harts: slices.Repeat(on(0, 1), 40)})
	for number, x := range got.Traces {
		if x.End.End != api.EndFetch || x.Steps != 2 || len(x.Events) != 1 || x.End.PC != uint64(4+8*number) {
			t.Errorf("hart %d: %s", number, told(x))
		}
	}
	// Ended at once: no words, a PC that is none's place.
	m.Words = nil
	m.Start[1].PC = 2
	got = must(t, m, weave(0, 0, 1, 1))
	for number, x := range got.Traces {
		if x.End.End != api.EndFetch || x.Steps != 1 || x.End.PC != m.Start[number].PC {
			t.Errorf("hart %d: %s", number, told(x))
		}
	}
}

func TestDoOfWhatIsFound(t *testing.T) {
	first := at(8, 7, 1<<63, 3)
	for _, c := range []struct{ line string }{{"ld x1, 0(x6)"}, {"lr.d x1, (x6)"}, {"amoadd.d x1, x0, (x6)"}, {"amoswap.d x1, x5, (x6)"}} {
		// What memory had at first; noughts where nothing is told.
		m := image(t, lines{c.line}, lines{"sd x5, 0(x6)", "sd x0, 0(x6)"})
		got := holdFound(t, m, api.Weave{First: first, Harts: on(0)}, u(7))
		if got.Cand.From[0] != none || got.Traces[0].End.X[1] != 7 {
			t.Errorf("%q: %s", c.line, told(got))
		}
		holdFound(t, m, weave(0), u(0))
		// What another hart stored, last of all.
		got = holdFound(t, m, api.Weave{First: first, Harts: on(1, 0)}, u(15))
		if got.Cand.From[0] != 1 {
			t.Errorf("%q: %s", c.line, told(got))
		}
		got = holdFound(t, m, api.Weave{First: first, Harts: on(1, 1, 0)}, u(0))
		if got.Cand.From[0] != 2 {
			t.Errorf("%q: %s", c.line, told(got))
		}
		// What it stored itself; elsewhere.
		m = image(t, lines{"sd x5, 0(x6)", "sd x8, 0(x7)", c.line}, lines{"sd x5, 0(x7)"})
		got = holdFound(t, m, api.Weave{First: first, Harts: on(0, 0, 1, 0)}, u(5))
		if got.Cand.From[2] != 0 {
			t.Errorf("%q: %s", c.line, told(got))
		}
		// An amo, of another hart and its own.
		m = image(t, lines{"amoadd.d x0, x5, (x6)", c.line}, lines{"amoadd.d x0, x5, (x6)"})
		got = holdFound(t, m, api.Weave{First: first, Harts: on(0, 1, 0)}, u(7, 27), u(12))
		if !slices.Equal(got.Cand.From[:2], on(-1, 2)) {
			t.Errorf("%q: %s", c.line, told(got))
		}
		got = holdFound(t, m, api.Weave{First: first, Harts: on(1, 0, 0)}, u(22, 27), u(7))
		if !slices.Equal(got.Cand.From[:2], on(2, 0)) {
			t.Errorf("%q: %s", c.line, told(got))
		}
		// An sc that won, of another one and its own.
		m = image(t, lines{"lr.d x0, (x6)", "sc.d x0, x5, (x6)", c.line}, lines{"lr.d x0, (x6)", "sc.d x0, x5, (x6)"})
		holdFound(t, m, api.Weave{First: first, Harts: on(0, 0, 0)}, u(7, 5))
		holdFound(t, m, api.Weave{First: first, Harts: on(0, 0, 1, 1, 0)}, u(7, 15), u(5))
		holdFound(t, m, api.Weave{First: first, Harts: on(0, 0, 1, 1, 0), Wins: []bool{true, false}}, u(7, 5), u(5))
	}
	// At edges of addresses.
	m := image(t, lines{"ld x1, 0(x6)", "sd x5, 0(x6)", "ld x1, 0(x6)"})
	for _, addr := range []uint64{0, 1 << 63, math.MaxUint64 - 7} {
		m.Start[0].X[6] = addr
		holdFound(t, m, weave(0, 0, 0), u(0, 5))
		got := holdFound(t, m, api.Weave{First: at(addr, 9), Harts: on(0, 0, 0)}, u(9, 5))
		holdMemory(t, got, addr, 5)
	}
}

func TestDoOfEachAmo(t *testing.T) {
	for op, want := range map[string]uint64{"swap": 3, "add": 1<<63 + 8, "xor": 1<<63 + 6, "and": 1, "or": 1<<63 + 7, "min": 1<<63 + 5, "max": 3, "minu": 3, "maxu": 1<<63 + 5} {
		m := image(t, lines{"amo" + op + ".d x1, x5, (x6)"}, lines{"ld x1, 0(x6)"})
		m.Start[0].X[5] = 3
		got := holdFound(t, m, api.Weave{First: at(8, 1<<63+5), Harts: on(0, 1)}, u(1<<63+5), u(want))
		holdNumbers(t, got, on(-1, 0), on(0, 1))
		holdMemory(t, got, 8, want)
	}
}

func TestDoTellsNumbersAndNotTurns(t *testing.T) {
	// Fences are in no Order, but have numbers; hart 2 comes first.
	m := image(t, lines{"fence rw, rw", "ld x1, 0(x6)", "fence rw, rw", "ld x2, 0(x7)"},
		lines{"sd x5, 0(x7)", "fence w, w", "amoswap.d x1, x5, (x6)"},
		lines{"fence w, r", "sd x5, 0(x6)", "fence r, r"})
	got := holdFound(t, m, weave(2, 2, 1, 0, 0, 1, 1, 0, 2, 0), u(25, 15), u(25))
	holdNumbers(t, got, on(-1, 8, -1, 4, -1, -1, 8, -1, -1, -1), on(8, 4, 1, 6, 3))
	got = holdFound(t, m, weave(0, 0, 0, 0, 1, 1, 1, 2, 2, 2), u(0, 0), u(0))
	holdNumbers(t, got, slices.Repeat(on(none), 10), on(1, 3, 4, 6, 8))
	// Fences alone.
	got = must(t, m, weave(0, 2))
	holdNumbers(t, got, on(-1, -1), nil)
	// What does nothing to memory has no number.
	m = image(t, lines{"addi x0, x5, 1", "ecall", "sc.d x1, x5, (x6)", "ld x1, 0(x6)"}, lines{"add x5, x5, x5", "sd x5, 0(x6)"})
	got = holdFound(t, m, weave(1, 1, 0, 0, 0, 0), u(30))
	holdNumbers(t, got, on(1, -1), on(1, 0))
}

func TestDoTellsMemory(t *testing.T) {
	m := image(t, lines{"sd x5, 0(x8)", "sd x5, 0(x6)", "sd x0, 0(x8)"}, lines{"sd x0, 0(x7)", "sd x5, -16(x7)", "sd x0, 0(x6)", "sd x5, 0(x6)", "ld x1, 56(x6)"})
	first := at(16, 9, 40, 0, 48, 1<<63, math.MaxUint64-7, 1)
	holdMemory(t, must(t, m, api.Weave{First: first}), 16, 9, 48, 1<<63, math.MaxUint64-7, 1)
	holdMemory(t, must(t, m, api.Weave{First: first, Harts: on(0, 0)}), 8, 5, 16, 9, 24, 5, 48, 1<<63, math.MaxUint64-7, 1)
	holdMemory(t, must(t, m, api.Weave{First: first, Harts: on(0, 1, 0, 1, 1, 0)}), 0, 15, 48, 1<<63, math.MaxUint64-7, 1)
	holdMemory(t, must(t, m, api.Weave{First: first, Harts: on(0, 1, 0, 1, 1, 1, 1)}), 0, 15, 8, 15, 24, 5, 48, 1<<63, math.MaxUint64-7, 1)
	// An sc that is lost stores nothing, one that wins does.
	m = image(t, lines{"lr.d x1, (x6)", "sc.d x1, x5, (x6)"})
	holdMemory(t, must(t, m, api.Weave{Harts: on(0, 0), Wins: []bool{false}}))
	holdMemory(t, must(t, m, api.Weave{Harts: on(0, 0), Wins: []bool{true}}), 8, 5)
}

func TestDoIsRunsByWhatWasFound(t *testing.T) {
	many(t, 2, 300, func(m api.Image, w api.Weave) {
		p := plainDo(m, w)
		got := must(t, m, w)
		for number, trace := range got.Traces {
			picks := api.Picks{Loads: found(got, number), Steps: trace.Steps}
			for _, l := range p.log {
				if l.hart == number && l.asked.Kind == api.AskSC {
					picks.Wins = append(picks.Wins, l.event.Kind == api.EvSC)
				}
			}
			want, err := run.Run(m, number, picks)
			if err != api.OK || !run.Same(trace, want) || told(trace.Events) != told(got.Cand.Harts[number]) {
				t.Fatalf("%s, want %s", told(trace), told(want))
			}
		}
		if told(got.Cand.First) != told(w.First) {
			t.Fatalf("First %v, was %v", got.Cand.First, w.First)
		}
	})
}

func TestDoAtRandom(t *testing.T) {
	events, turns := 0, 0
	many(t, 3, 1500, func(m api.Image, w api.Weave) {
		got := must(t, m, w)
		events += len(got.Cand.From)
		turns += len(w.Harts)
	})
	if events < 20000 || turns < 100000 {
		t.Errorf("%d events, %d turns", events, turns)
	}
}

// holdMost does a weave over an image of harts that loop, and holds how many events come of it; with a turn more of this hart there are too many.
func holdMost(t *testing.T, m api.Image, w api.Weave, more int) {
	t.Helper()
	got, err := inter.Do(m, w)
	if err != api.OK || len(got.Cand.From) != api.MaxEvents {
		t.Fatalf("%d events: %d", len(got.Cand.From), err)
	}
	if len(m.Start) > 1 {
		holdGood(t, got)
	}
	w.Harts = append(slices.Clone(w.Harts), more)
	if got, err := inter.Do(m, w); err != api.ErrArg || told(got) != told(api.Woven{}) {
		t.Errorf("one more: %d, %d events", err, len(got.Cand.From))
	}
	w.Harts = append(w.Harts, make([]int, 9000)...)
	if got, err := inter.Do(m, w); err != api.ErrArg || told(got) != told(api.Woven{}) {
		t.Errorf("many more: %d, %d events", err, len(got.Cand.From))
	}
}

func TestDoOfMostEvents(t *testing.T) {
	for _, line := range []string{"sd x5, 0(x6)", "ld x1, 0(x6)", "lr.d x1, (x6)", "amoadd.d x1, x5, (x6)", "fence rw, rw"} {
		loop := lines{line, "jal x0, -4"}
		// The last one is the hart's last turn: a jump, and one more.
		m := image(t, loop)
		w := api.Weave{Harts: make([]int, 2*api.MaxEvents)}
		holdMost(t, m, w, 0)
		w.Harts = w.Harts[:2*api.MaxEvents-1]
		if got, err := inter.Do(m, w); err != api.OK || len(got.Cand.From) != api.MaxEvents {
			t.Errorf("%q: %d, %d events", line, err, len(got.Cand.From))
		}
		w.Harts = w.Harts[:2*api.MaxEvents-2]
		if got, err := inter.Do(m, w); err != api.OK || len(got.Cand.From) != api.MaxEvents-1 {
			t.Errorf("%q: %d, %d events", line, err, len(got.Cand.From))
		}
		// Of all harts together.
		m = image(t, slices.Repeat([]lines{loop}, api.MaxHarts)...)
		holdMost(t, m, api.Weave{Harts: slices.Repeat(on(0, 1, 2, 3, 4, 5, 6, 7), 2*api.MaxEvents/8)}, 3)
	}
	// Scs: of each pair two events, one if it is lost.
	m := image(t, lines{"lr.d x1, (x6)", "sc.d x1, x5, (x6)", "jal x0, -8"})
	holdMost(t, m, api.Weave{Harts: make([]int, 3*api.MaxEvents/2)}, 0)
	holdMost(t, m, api.Weave{Harts: make([]int, 3*api.MaxEvents), Wins: make([]bool, api.MaxEvents)}, 0)
	// What is no event does not count.
	m = image(t, lines{"addi x0, x5, 1", "ecall", "sc.d x1, x5, (x6)", "jal x0, -12"})
	got, err := inter.Do(m, api.Weave{Harts: make([]int, api.MaxSteps)})
	if err != api.OK || len(got.Cand.From) != 0 || got.Traces[0].Steps != api.MaxSteps || len(got.Traces[0].Outs) != api.MaxSteps/4 || len(got.Traces[0].Marks) != api.MaxSteps/4 {
		t.Errorf("%d: %d steps", err, got.Traces[0].Steps)
	}
}
