package inter_test

import (
	"fmt"
	"slices"
	"testing"

	"fencepost/api"
	"fencepost/code"
)

// P12.1: which sc may win, and which of Wins tell of it

// Lines of hart 0: an lr of what is at x6, and an sc into x2, of x5, there.
const (
	lrLine = "lr.d x1, (x6)"
	scLine = "sc.d x2, x5, (x6)"
)

// Other harts' lines that store at x6, whatever stood there.
func storers() []lines {
	return []lines{
		{"sd x5, 0(x6)"}, {"sd x5, -8(x7)"}, {"sd x0, 0(x6)"},
		{"ld x3, 0(x6)", "sd x3, 0(x6)"}, // the same word
		{"amoadd.d x1, x5, (x6)"}, {"amoadd.d x1, x0, (x6)"}, {"amoor.d x0, x0, (x6)"}, {"amoswap.d x3, x5, (x6)"},
		{"lr.d x3, (x6)", "sc.d x4, x5, (x6)"}, {"lr.d x3, (x6)", "sc.d x4, x3, (x6)"},
	}
}

// Other harts' lines that do not.
func others() []lines {
	return []lines{
		{"sd x5, 0(x7)"}, {"sd x5, 8(x6)"}, {"sd x5, -8(x6)"}, {"amoadd.d x1, x5, (x7)"}, {"lr.d x3, (x7)", "sc.d x4, x5, (x7)"},
		{"ld x3, 0(x6)"}, {"lr.d x3, (x6)"}, {"fence rw, rw"}, {"addi x0, x5, 1"}, {"ecall"},
		{"sc.d x4, x5, (x6)"}, {"lr.d x3, (x7)", "sc.d x4, x5, (x6)"}, // not held
		{"ebreak", "sd x5, 0(x6)"}, {"sw x5, 0(x6)", "sd x5, 0(x6)"}, {"sd x5, 4(x6)", "sd x5, 0(x6)"}, // ended
	}
}

// turnsOf answers as many turns of a hart as it has lines.
func turnsOf(hart int, l lines) []int { return slices.Repeat([]int{hart}, len(l)) }

// holdWon does turns, and holds whether hart 0's last sc won, with which pair; none: it did not.
func holdWon(t *testing.T, pair int, first []api.Cell, wins []bool, turns []int, harts ...lines) api.Woven {
	t.Helper()
	m := image(t, harts...)
	got := must(t, m, api.Weave{First: first, Harts: turns, Wins: wins})
	x := got.Traces[0]
	// Where hart 0 has an event behind its lrs, that is the sc.
	last := api.Event{}
	if len(x.Events) > 0 {
		last = x.Events[len(x.Events)-1]
	}
	won := last.Kind == api.EvSC && last.Store == 5
	if won != (pair != none) || won && (last.Pair != pair || last.Addr != 8 || x.End.X[2] != 0) || !won && x.End.X[2] != 1 {
		t.Errorf("%v by %v, %v: won with %d, want %d: %s", code.Dump(m.Words), turns, wins, last.Pair, pair, told(got))
	}
	return got
}

func TestScThatIsNotHeld(t *testing.T) {
	for _, wins := range [][]bool{nil, {true}, {false}, {true, true}} {
		for _, l := range []lines{
			{scLine},
			{"ld x1, 0(x6)", scLine},
			{"amoadd.d x1, x5, (x6)", scLine},
			{"lr.d x1, (x7)", scLine},
			{lrLine, "lr.d x1, (x7)", scLine},
			{lrLine, "sc.d x2, x8, (x7)", scLine},
			{"lr.d x1, (x7)", "sc.d x2, x8, (x6)", scLine},
		} {
			holdWon(t, none, nil, wins, turnsOf(0, l), l)
		}
	}
	// The sc ahead of it won, or lost.
	for _, wins := range [][]bool{nil, {true}, {false}, {true, true}, {false, true}} {
		l := lines{lrLine, "sc.d x2, x8, (x6)", scLine}
		holdWon(t, none, nil, wins, turnsOf(0, l), l)
	}
	// At address 0, where nothing was taken.
	m := image(t, lines{"sc.d x2, x5, (x0)"})
	if got := must(t, m, weave(0)); len(got.Cand.From) != 0 || got.Traces[0].End.X[2] != 1 {
		t.Errorf("%s", told(got))
	}
	// What another hart holds does not count.
	holdWon(t, none, nil, nil, on(1, 0, 0), lines{scLine}, lines{lrLine})
	holdWon(t, none, nil, nil, on(1, 0, 0), lines{"lr.d x1, (x7)", scLine}, lines{lrLine})
}

func TestScThatIsHeld(t *testing.T) {
	for _, wins := range [][]bool{nil, {true}, {true, false}} {
		holdWon(t, 0, nil, wins, on(0, 0), lines{lrLine, scLine})
		holdWon(t, 1, nil, wins, on(0, 0, 0), lines{"fence r, r", lrLine, scLine})
		// The last lr is the pair.
		holdWon(t, 1, nil, wins, on(0, 0, 0), lines{lrLine, lrLine, scLine})
		holdWon(t, 2, nil, wins, on(0, 0, 0, 0), lines{lrLine, "lr.d x1, (x7)", lrLine, scLine})
	}
	for _, wins := range [][]bool{{false}, {false, true}} {
		holdWon(t, none, nil, wins, on(0, 0), lines{lrLine, scLine})
	}
	// The hart itself stored there, or did anything but an lr or sc.
	for _, between := range []string{"sd x5, 0(x6)", "sd x8, 0(x6)", "amoadd.d x3, x8, (x6)", "ld x3, 0(x6)", "sd x8, 0(x7)", "fence rw, rw", "addi x0, x5, 1", "ecall"} {
		got := holdWon(t, 0, nil, nil, on(0, 0, 0), lines{lrLine, between, scLine})
		holdMemory(t, api.Woven{Memory: got.Memory[:1]}, 8, 5)
	}
	// With its addresses in other registers.
	holdWon(t, 0, nil, nil, on(0, 0, 0), lines{lrLine, "addi x9, x7, -8", "sc.d x2, x5, (x9)"})
}

func TestScBehindAnotherHartsStore(t *testing.T) {
	for _, l := range storers() {
		for _, wins := range [][]bool{nil, {true}, {true, true}} {
			harts := []lines{{lrLine, scLine}, l}
			// Between the lr and the sc.
			turns := slices.Concat(on(0), turnsOf(1, l), on(0))
			holdWon(t, none, nil, wins, turns, harts...)
			holdWon(t, none, at(8, 7), wins, turns, harts...)
			// Ahead of the lr, and behind the sc.
			holdWon(t, 0, nil, wins, slices.Concat(turnsOf(1, l), on(0, 0)), harts...)
			holdWon(t, 0, nil, wins, slices.Concat(on(0, 0), turnsOf(1, l)), harts...)
			// An lr behind it takes it anew; one elsewhere does not.
			harts[0] = lines{lrLine, lrLine, scLine}
			holdWon(t, 1, nil, wins, slices.Concat(on(0), turnsOf(1, l), on(0, 0)), harts...)
			holdWon(t, none, nil, wins, slices.Concat(on(0, 0), turnsOf(1, l), on(0)), harts...)
			// Ahead of the lr that counts, behind one that does not.
			harts[0] = lines{"lr.d x1, (x7)", lrLine, scLine}
			holdWon(t, 1, nil, wins, slices.Concat(on(0), turnsOf(1, l), on(0, 0)), harts...)
			// The hart itself stored there too, ahead and behind.
			harts[0] = lines{lrLine, "sd x5, 0(x6)", scLine}
			holdLost(t, wins, slices.Concat(on(0, 0), turnsOf(1, l), on(0)), harts...)
			holdLost(t, wins, slices.Concat(on(0), turnsOf(1, l), on(0, 0)), harts...)
		}
		// Of any other hart, with more harts between.
		for by := 1; by < api.MaxHarts; by++ {
			harts := slices.Repeat([]lines{{"ld x1, 0(x6)"}}, api.MaxHarts)
			harts[0], harts[by] = lines{lrLine, scLine}, l
			holdWon(t, none, nil, nil, slices.Concat(on(0), turnsOf(by, l), on(0)), harts...)
		}
	}
}

// holdLost holds hart 0's last sc to be lost, where its last event may be a store that looks like it.
func holdLost(t *testing.T, wins []bool, turns []int, harts ...lines) {
	t.Helper()
	got := must(t, image(t, harts...), api.Weave{Harts: turns, Wins: wins})
	if x := got.Traces[0]; x.End.X[2] != 1 || len(x.Events) != 2 {
		t.Errorf("%v by %v: %s", harts, turns, told(got))
	}
}

func TestScWhereAnotherHartStoredElsewhere(t *testing.T) {
	for _, l := range others() {
		for _, wins := range [][]bool{nil, {true, true}} {
			holdWon(t, 0, nil, wins, slices.Concat(on(0), turnsOf(1, l), on(0)), lines{lrLine, scLine}, l)
		}
	}
	// An sc of the other one that may win, but does not.
	l := lines{"lr.d x3, (x6)", "sc.d x4, x5, (x6)"}
	holdWon(t, 0, nil, []bool{false}, on(0, 1, 1, 0), lines{lrLine, scLine}, l)
	holdWon(t, 0, nil, []bool{false, true}, on(1, 0, 1, 0), lines{lrLine, scLine}, l)
	holdWon(t, none, nil, []bool{true, true}, on(1, 0, 1, 0), lines{lrLine, scLine}, l)
	// It is hart 0 that stored where the other one holds.
	holdWon(t, 0, nil, nil, on(0, 1, 0, 1), lines{lrLine, scLine}, l)
}

func TestScOfManyHarts(t *testing.T) {
	// Each holds; the first one that stores wins, whoever it is.
	harts := slices.Repeat([]lines{{lrLine, scLine}}, api.MaxHarts)
	m := image(t, harts...)
	for first := range api.MaxHarts {
		turns := on(0, 1, 2, 3, 4, 5, 6, 7, first, 0, 1, 2, 3, 4, 5, 6, 7)
		got := must(t, m, weave(turns...))
		for number, x := range got.Traces {
			if won := x.End.X[2] == 0; won != (number == first) {
				t.Errorf("hart %d, where %d is first: %s", number, first, told(x))
			}
		}
		holdMemory(t, got, 8, uint64(5+10*first))
	}
	// By turns all win.
	got := must(t, m, weave(slices.Repeat(on(0, 0, 1, 1, 2, 2, 3, 3, 4, 4, 5, 5, 6, 6, 7, 7), 1)...))
	for number, x := range got.Traces {
		if x.End.X[2] != 0 || x.Events[0].Load != uint64(max(0, 10*number-5)) {
			t.Errorf("hart %d: %s", number, told(x))
		}
	}
}

func TestWinsAreToldByThoseThatMayWin(t *testing.T) {
	// Hart 0 has four scs that may win, with others between that may not; hart 1 one.
	harts := []lines{
		{scLine, lrLine, "sc.d x3, x5, (x6)", scLine, lrLine, "sc.d x9, x5, (x6)", "lr.d x1, (x7)", scLine, lrLine, "sc.d x10, x5, (x6)", "sc.d x11, x5, (x6)", lrLine, "sc.d x12, x5, (x6)"},
		{"lr.d x1, (x7)", "sc.d x3, x5, (x7)", "sc.d x4, x5, (x7)"},
	}
	m := image(t, harts...)
	turns := slices.Concat(turnsOf(0, harts[0][:4]), turnsOf(1, harts[1]), turnsOf(0, harts[0][4:]))
	lost := func(x api.Hart, registers ...int) []uint64 {
		var l []uint64
		for _, r := range registers {
			l = append(l, x.X[r])
		}
		return l
	}
	for wins := range 1 << 5 {
		for told := range 6 {
			w := api.Weave{Harts: turns}
			for place := range told {
				w.Wins = append(w.Wins, wins>>place&1 != 0)
			}
			got := must(t, m, w)
			// In the order of their turns: x3 of hart 0, x3 of hart 1, x9, x10, x12 of hart 0.
			var did []bool
			for _, x := range append(append(lost(got.Traces[0].End, 3), lost(got.Traces[1].End, 3)...), lost(got.Traces[0].End, 9, 10, 12)...) {
				did = append(did, x == 0)
			}
			if want := append(slices.Clone(w.Wins), slices.Repeat([]bool{true}, 5-told)...); !slices.Equal(did, want) {
				t.Errorf("by %v: %v", w.Wins, did)
			}
			if l := append(lost(got.Traces[0].End, 2, 11), lost(got.Traces[1].End, 4)...); !slices.Equal(l, u(1, 1, 1)) {
				t.Errorf("by %v: %v", w.Wins, l)
			}
		}
	}
	// More of Wins than scs.
	w := api.Weave{Harts: turns, Wins: []bool{true, false, true, false, true, false, false, false}}
	short := api.Weave{Harts: turns, Wins: w.Wins[:5]}
	if a, b := must(t, m, w), must(t, m, short); told(a) != told(b) {
		t.Errorf("%s, want %s", told(a), told(b))
	}
}

func TestAnScThatMayNotWinTakesNone(t *testing.T) {
	// Each of these ends by an sc that may win, and takes the first of Wins.
	for _, c := range []struct {
		harts []lines
		turns []int
	}{
		{[]lines{{scLine, lrLine, scLine}}, on(0, 0, 0)},
		{[]lines{{"lr.d x1, (x7)", scLine, lrLine, scLine}}, on(0, 0, 0, 0)},
		{[]lines{{lrLine, scLine, lrLine, scLine}, {"sd x5, 0(x6)"}}, on(0, 1, 0, 0, 0)},
		{[]lines{{lrLine, scLine, lrLine, scLine}, {"amoadd.d x0, x0, (x6)"}}, on(0, 1, 0, 0, 0)},
		{[]lines{{lrLine, scLine}, {"sc.d x2, x5, (x6)"}}, on(0, 1, 0)},
		{[]lines{{lrLine, scLine}, {"lr.d x1, (x7)", "sc.d x2, x5, (x6)"}}, on(1, 0, 1, 0)},
	} {
		for _, win := range []bool{true, false} {
			got := must(t, image(t, c.harts...), api.Weave{Harts: c.turns, Wins: []bool{win, !win}})
			if x := got.Traces[0]; (x.End.X[2] == 0) != win {
				t.Errorf("%v by %v, %t: %s", c.harts, c.turns, win, told(got))
			}
		}
	}
}

func TestScOfEveryOrder(t *testing.T) {
	// All ways to turn three harts that each hold and store, one of them elsewhere, with all Wins of three.
	harts := []lines{{lrLine, scLine}, {lrLine, "sc.d x2, x1, (x6)", "sd x5, 0(x7)"}, {"lr.d x1, (x7)", "sc.d x2, x5, (x7)", "amoadd.d x3, x5, (x6)"}}
	m := image(t, harts...)
	met := map[string]bool{}
	var all func(turns []int, left [3]int)
	all = func(turns []int, left [3]int) {
		if len(turns) == 8 {
			for wins := range 8 {
				got := must(t, m, api.Weave{Harts: turns, Wins: []bool{wins&1 != 0, wins&2 != 0, wins&4 != 0}})
				met[fmt.Sprint(got.Traces[0].End.X[2], got.Traces[1].End.X[2], got.Traces[2].End.X[2])] = true
			}
			return
		}
		for hart := range left {
			if left[hart] > 0 {
				less := left
				less[hart]--
				all(append(slices.Clone(turns), hart), less)
			}
		}
	}
	all(nil, [3]int{2, 3, 3})
	if len(met) != 8 {
		t.Errorf("met %v", met)
	}
}
