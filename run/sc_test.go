package run_test

import (
	"testing"

	"fencepost/api"
	"fencepost/run"
)

// P8.2: an sc, what it holds, what it takes; on what events hang

// An sc into x7, of x5 at x6.
const scLine = "sc.d x7, x5, (x6)"

// scRun runs lines, with x5 9, x6 8, x8 16, an ecall being an out, and holds the trace against the reference's.
func scRun(t *testing.T, wins []bool, lines ...string) api.Trace {
	t.Helper()
	m := alone(t, regs{5: 9, 6: 8, 8: 16, 17: 1}, lines...)
	p := api.Picks{Loads: []uint64{8, 2, 3, 4, 5, 6, 7, 8}, Wins: wins, Steps: len(lines)}
	got := must(t, m, 0, p)
	want := plain(m, 0, p)
	if told(got) != told(want.trace) || run.Needs(m, 0, p) != want.needs {
		t.Errorf("%q: %s, want %s", lines, told(got), told(want.trace))
	}
	return got
}

// won holds lines to end by an sc that won, or did not: x7 has 0 or 1, and of one that won there is an event with that pair.
func won(t *testing.T, pair int, wins []bool, lines ...string) {
	t.Helper()
	got := scRun(t, wins, lines...)
	if got.Steps != len(lines) {
		t.Errorf("%q by %t: %d steps", lines, wins, got.Steps)
		return
	}
	last := api.Event{}
	if len(got.Events) > 0 {
		last = got.Events[len(got.Events)-1]
	}
	if pair < 0 {
		if got.End.X[7] != 1 || last.Kind == api.EvSC && last.Store == 9 {
			t.Errorf("%q by %t won: %s", lines, wins, told(got))
		}
		return
	}
	if got.End.X[7] != 0 || last.Kind != api.EvSC || last.Pair != pair || last.Addr != 8 || last.Store != 9 {
		t.Errorf("%q by %t did not win: %s", lines, wins, told(got))
	}
}

func TestRunOfAnScThatIsHeld(t *testing.T) {
	yes := []bool{true}
	won(t, 0, yes, "lr.d x1, (x6)", scLine)
	won(t, 0, yes, "lr.d.aqrl x6, (x6)", "addi x6, x0, 8", scLine)
	// Whatever is between, but an lr or an sc.
	won(t, 0, yes, "lr.d x1, (x6)", "ld x2, 0(x8)", "sd x5, 0(x8)", "fence rw, rw", "amoadd.d x2, x5, (x8)", "addi x0, x5, 3", scLine)
	won(t, 0, yes, "lr.d x1, (x6)", "sd x5, 0(x6)", scLine)
	won(t, 0, yes, "lr.d x1, (x6)", "amoswap.d x2, x5, (x6)", scLine)
	won(t, 1, yes, "fence r, r", "lr.d x1, (x6)", scLine)
	// The last lr counts.
	won(t, 1, yes, "lr.d x1, (x6)", "lr.d x1, (x6)", scLine)
	won(t, 2, yes, "lr.d x1, (x6)", "lr.d x1, (x8)", "lr.d x1, (x6)", scLine)
	won(t, 2, []bool{true, true}, "lr.d x1, (x6)", "sc.d x7, x1, (x6)", "lr.d x1, (x6)", scLine)
	won(t, 1, []bool{false, true}, "lr.d x1, (x6)", scLine, "lr.d x1, (x6)", scLine)
	// Told to lose.
	won(t, -1, []bool{false}, "lr.d x1, (x6)", scLine)
	won(t, -1, []bool{false, true}, "lr.d x1, (x6)", scLine)
	won(t, -1, []bool{true, false}, "lr.d x1, (x6)", scLine, "lr.d x1, (x6)", scLine)
}

func TestRunOfAnScThatIsNotHeld(t *testing.T) {
	for _, win := range []bool{true, false} {
		one := []bool{win}
		// No lr.
		won(t, -1, one, scLine)
		won(t, -1, one, "ld x1, 0(x6)", scLine)
		won(t, -1, one, "amoadd.d x1, x5, (x6)", scLine)
		// An lr of another address.
		won(t, -1, one, "lr.d x1, (x8)", scLine)
		won(t, -1, one, "lr.d x1, (x0)", scLine)
		won(t, -1, one, "lr.d x1, (x6)", "lr.d x1, (x8)", scLine)
		// An sc between: that won, lost, at another address, without an lr.
		won(t, -1, []bool{true, win}, "lr.d x1, (x6)", "sc.d x7, x1, (x6)", scLine)
		won(t, -1, []bool{false, win}, "lr.d x1, (x6)", "sc.d x7, x1, (x6)", scLine)
		won(t, -1, []bool{true, win}, "lr.d x1, (x6)", "sc.d x7, x1, (x8)", scLine)
		won(t, -1, []bool{false, win}, "lr.d x1, (x6)", "sc.d x7, x1, (x8)", scLine)
		won(t, -1, []bool{true, win}, "lr.d x1, (x8)", "sc.d x7, x1, (x8)", scLine)
	}
	// Of address 0, where nothing was taken.
	won(t, -1, []bool{true}, "sc.d x7, x5, (x0)")
}

func TestRunOfAnScWithoutAPick(t *testing.T) {
	for _, ahead := range [][]string{nil, {"lr.d x1, (x6)"}, {"lr.d x1, (x8)"}, {"sd x5, 0(x6)"}} {
		lines := append(ahead[:len(ahead):len(ahead)], scLine, "ebreak")
		m := alone(t, regs{5: 9, 6: 8, 8: 16}, lines...)
		p := api.Picks{Loads: []uint64{3, 4}, Steps: 9}
		got := must(t, m, 0, p)
		if got.Steps != len(ahead) || got.End.PC != 4*uint64(len(ahead)) || got.End.End != 0 || len(got.Events) != len(ahead) || run.Needs(m, 0, p) != 2 {
			t.Errorf("%q: %s, needs %d", lines, told(got), run.Needs(m, 0, p))
		}
		p.Wins = []bool{true}
		got = must(t, m, 0, p)
		if got.Steps != len(lines) || got.End.End != api.EndBreak || run.Needs(m, 0, p) != 0 {
			t.Errorf("%q: %s, needs %d", lines, told(got), run.Needs(m, 0, p))
		}
	}
	// Steps that are over, or an end, come first.
	m := alone(t, regs{6: 8}, scLine)
	hold(t, m, 0, api.Picks{}, api.Trace{End: m.Start[0]}, 0)
	hold(t, m, 0, api.Picks{Loads: []uint64{1}, Steps: 1}, api.Trace{End: m.Start[0]}, 2)
	hold(t, m, 0, api.Picks{Wins: []bool{true, false}[:0], Steps: 1}, api.Trace{End: m.Start[0]}, 2)
}

func TestRunOfALostScTakesItsPick(t *testing.T) {
	lines := []string{scLine, "lr.d x1, (x6)", scLine, "lr.d x1, (x6)", scLine}
	for _, c := range []struct {
		wins          []bool
		steps, events int
	}{
		// The first sc is not held: its pick is taken for nothing.
		{[]bool{true}, 2, 1},
		{[]bool{true, true}, 4, 3},
		{[]bool{true, false}, 4, 2},
		{[]bool{true, false, true}, 5, 3},
		{[]bool{false, true, true}, 5, 4},
		{[]bool{true, true, false}, 5, 3},
	} {
		got := scRun(t, c.wins, lines...)
		if got.Steps != c.steps || len(got.Events) != c.events {
			t.Errorf("%t: %d steps, %d events, want %d, %d", c.wins, got.Steps, len(got.Events), c.steps, c.events)
		}
	}
}

func TestRunOfTheWholeEventOfAnSc(t *testing.T) {
	m := alone(t, regs{5: 9, 6: 8}, "fence w, w", "lr.d.aq x1, (x6)", "sd x5, 24(x0)", "sc.d.rl x7, x1, (x6)")
	want := api.Trace{
		Events: []api.Event{
			{At: 0, Kind: api.EvFence, Pred: 1, Succ: 1},
			{At: 1, Kind: api.EvLR, Addr: 8, Load: 4, Aq: true},
			{At: 2, Kind: api.EvStore, Addr: 24, Store: 9},
			{At: 3, Kind: api.EvSC, Addr: 8, Store: 4, Rl: true, Pair: 1, Deps: api.Deps{Data: []int{1}}},
		},
		End:   at(16, regs{1: 4, 5: 9, 6: 8}),
		Steps: 4,
	}
	hold(t, m, 0, api.Picks{Loads: []uint64{4}, Wins: []bool{true}, Steps: 4}, want, 0)
	want.Events, want.End.X[7] = want.Events[:3], 1
	hold(t, m, 0, api.Picks{Loads: []uint64{4}, Wins: []bool{false}, Steps: 4}, want, 0)
}

// hung runs lines by many picks, and holds the deps of the last event.
func hung(t *testing.T, wins []bool, want api.Deps, lines ...string) {
	t.Helper()
	got := scRun(t, wins, lines...)
	if got.Steps != len(lines) || len(got.Events) == 0 {
		t.Errorf("%q: %s", lines, told(got))
		return
	}
	if d := got.Events[len(got.Events)-1].Deps; told(api.Trace{Events: []api.Event{{Deps: d}}}) != told(api.Trace{Events: []api.Event{{Deps: want}}}) {
		t.Errorf("%q hangs on %+v, want %+v", lines, d, want)
	}
}

func TestRunOfDeps(t *testing.T) {
	on := func(l ...int) []int { return l }
	hung(t, nil, api.Deps{}, "ld x1, 0(x6)", "sd x5, 0(x6)")
	hung(t, nil, api.Deps{Data: on(0)}, "ld x1, 0(x6)", "sd x1, 0(x6)")
	hung(t, nil, api.Deps{Addr: on(0)}, "ld x1, 0(x6)", "and x1, x1, x0", "ld x2, 0(x1)")
	hung(t, nil, api.Deps{Addr: on(0), Data: on(1)}, "ld x1, 0(x6)", "ld x2, 0(x6)", "and x1, x1, x0", "sd x2, 0(x1)")
	hung(t, nil, api.Deps{Data: on(0, 1)}, "ld x1, 0(x6)", "ld x2, 0(x6)", "add x3, x2, x1", "sd x3, 0(x6)")
	// Events are counted by their places: fences and stores have places, too.
	hung(t, nil, api.Deps{Data: on(2)}, "fence rw, rw", "sd x5, 0(x6)", "amoadd.d x1, x5, (x6)", "sd x1, 0(x6)")
	hung(t, nil, api.Deps{Data: on(1)}, "ecall", "fence rw, rw", "addi x0, x0, 3", "lr.d x1, (x6)", "addi x0, x0, 4", "sd x1, 0(x6)")
	// The way.
	hung(t, nil, api.Deps{Way: on(0)}, "ld x1, 0(x6)", "bne x1, x5, 4", "sd x5, 0(x6)")
	hung(t, nil, api.Deps{Way: on(0)}, "ld x1, 0(x6)", "beq x1, x1, 4", "ld x5, 0(x6)")
	hung(t, nil, api.Deps{Way: on(0, 1), Data: on(1)}, "ld x1, 0(x6)", "ld x2, 0(x6)", "bltu x2, x1, 4", "sd x2, 0(x6)")
	hung(t, nil, api.Deps{Way: on(0)}, "ld x1, 0(x6)", "and x1, x1, x0", "jalr x2, 12(x1)", "sd x2, 0(x6)")
	hung(t, nil, api.Deps{}, "ld x1, 0(x6)", "jal x1, 4", "sd x1, 0(x6)")
	// A fence hangs on nothing.
	hung(t, nil, api.Deps{}, "ld x1, 0(x6)", "bne x1, x5, 4", "fence rw, rw")
	// Behind an sc that won: on it. Behind one that is lost: on nothing, whatever was there.
	hung(t, []bool{true}, api.Deps{Data: on(1)}, "lr.d x1, (x6)", "sc.d x7, x5, (x6)", "sd x7, 0(x6)")
	hung(t, []bool{true}, api.Deps{Way: on(1)}, "lr.d x1, (x6)", "sc.d x7, x5, (x6)", "bne x7, x0, 4", "sd x5, 0(x6)")
	hung(t, []bool{false}, api.Deps{}, "lr.d x7, (x6)", "sc.d x7, x5, (x6)", "sd x7, 0(x6)")
	hung(t, []bool{false}, api.Deps{}, "lr.d x1, (x6)", "sc.d x7, x5, (x6)", "bne x7, x0, 4", "sd x5, 0(x6)")
	hung(t, []bool{true}, api.Deps{}, "lr.d x7, (x8)", "sc.d x7, x5, (x6)", "sd x7, 0(x6)")
	// Places go on behind one that is lost as if it were not there.
	hung(t, []bool{false}, api.Deps{Data: on(1)}, "lr.d x1, (x6)", "sc.d x7, x5, (x6)", "ld x2, 0(x6)", "sd x2, 0(x6)")
	// A register that is written anew hangs on what is new alone.
	hung(t, nil, api.Deps{Data: on(1)}, "ld x1, 0(x6)", "ld x1, 0(x6)", "sd x1, 0(x6)")
	hung(t, nil, api.Deps{}, "ld x1, 0(x6)", "addi x1, x0, 1", "sd x1, 0(x6)")
	hung(t, nil, api.Deps{}, "ld x1, 0(x6)", "lui x1, 1", "sd x1, 0(x6)")
	hung(t, nil, api.Deps{}, "ld x0, 0(x6)", "sd x0, 0(x6)")
}

func TestRunOfDepsThroughALoop(t *testing.T) {
	// Three times round; x3 hangs on each load of x1, the way on each of x2.
	m := alone(t, regs{6: 8}, "ld x1, 0(x6)", "add x3, x3, x1", "ld x2, 0(x6)", "bne x2, x0, -12", "sd x3, 0(x6)", "ebreak")
	got := must(t, m, 0, api.Picks{Loads: []uint64{1, 1, 2, 1, 3, 0}, Steps: 99})
	if got.Steps != 14 || len(got.Events) != 7 {
		t.Fatalf("%s", told(got))
	}
	want := []api.Deps{{}, {}, {Way: []int{1}}, {Way: []int{1}}, {Way: []int{1, 3}}, {Way: []int{1, 3}}, {Data: []int{0, 2, 4}, Way: []int{1, 3, 5}}}
	for place, e := range got.Events {
		if told(api.Trace{Events: []api.Event{{Deps: e.Deps}}}) != told(api.Trace{Events: []api.Event{{Deps: want[place]}}}) {
			t.Errorf("event %d hangs on %+v, want %+v", place, e.Deps, want[place])
		}
	}
	if got.Events[6].Store != 6 {
		t.Errorf("%+v", got.Events[6])
	}
}
