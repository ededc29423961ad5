package litmus_test

import (
	"slices"
	"testing"

	"fencepost/api"
	"fencepost/litmus"
)

// All calls at the limits.

// padded answers lines, made as many as a way may have by ones that do nothing, put ahead of the last one.
func padded(l ...string) lines {
	return slices.Insert(lines(l), len(l)-1, slices.Repeat(lines{"addi x9, x9, 1"}, api.MaxDepth-len(l))...)
}

func TestOutcomesOfMostWordsAndLoads(t *testing.T) {
	loads := slices.Repeat([]string{"ld x10, 0(x6)"}, 6)
	l := with(looking(litmusOf(t, padded(loads...)), 0, 10, 0, 9), 8, 1, 16, 2, 24, 3)
	holdOutcomes(t, l, rows(2, 1, 58), rows(2, 1, 58))
}

func TestOutcomesOfMostAmosAndValues(t *testing.T) {
	swap := func(n string) string { return "amoswap.d " + n + ", " + n + ", (x6)" }
	l := looking(litmusOf(t, padded(swap("x1"), swap("x2"), swap("x3"), swap("x4"), swap("x10"), swap("x11"))), 0, 1, 0, 2, 0, 3, 0, 4, 0, 10, 0, 11)
	h := &l.Image.Start[0]
	h.X[1], h.X[2], h.X[3], h.X[4], h.X[10], h.X[11] = 1, 2, 3, 1, 2, 3
	holdOutcomes(t, l, rows(6, 0, 1, 2, 3, 1, 2), rows(6, 0, 1, 2, 3, 1, 2))
}

func TestOutcomesOfMostScs(t *testing.T) {
	one := padded("lr.d x10, (x6)", "sc.d x11, x5, (x6)")
	l := looking(litmusOf(t, one, one, one), 0, 11, 1, 11, 2, 11)
	holdOutcomes(t, l, all(3), all(3))
}

func TestOutcomesOfMostHarts(t *testing.T) {
	l := looking(litmusOf(t, padded("sd x5, 0(x6)", "ld x10, 0(x7)"), padded("sd x5, 0(x7)", "ld x10, 0(x6)"), padded("ld x10, 0(x6)"), padded("ld x10, 0(x7)")), 0, 10, 1, 10, 2, 10, 3, 10)
	holdOutcomes(t, l, all(4), but(all(4), rows(4, 0, 0, 0, 0, 0, 0, 0, 1, 0, 0, 1, 0, 0, 0, 1, 1)...))
}

func TestOutcomesOfMostFences(t *testing.T) {
	many := slices.Repeat(lines{"fence w, r"}, api.MaxDepth-2)
	way := func(store, load string) lines { return append(append(lines{store}, many...), load) }
	l := looking(litmusOf(t, way("sd x5, 0(x6)", "ld x10, 0(x7)"), way("sd x5, 0(x7)", "ld x10, 0(x6)")), 0, 10, 1, 10)
	not := but(all(2), []uint64{0, 0})
	holdOutcomes(t, l, not, not)
	many = slices.Repeat(lines{"fence r, w"}, api.MaxDepth-2)
	l = looking(litmusOf(t, way("sd x5, 0(x6)", "ld x10, 0(x7)"), way("sd x5, 0(x7)", "ld x10, 0(x6)")), 0, 10, 1, 10)
	holdOutcomes(t, l, all(2), not)
}

func TestOutcomesOfAGreatImageAndManyCells(t *testing.T) {
	l := litmusOf(t, lines{"ld x10, 0(x6)", "ld x11, 0(x7)"})
	l.Image.Base = 1<<31 - 4
	l.Image.Words = append(slices.Repeat(words(t, "jal x0, 0"), api.MaxCode-3), l.Image.Words...)
	l.Image.Start[0].PC = l.Image.Base + 4*(api.MaxCode-3)
	l.Image.Start[0].X[6], l.Image.Start[0].X[7] = 8*4999, 1<<64-8
	for n := range uint64(20000) {
		l.First = append(l.First, api.Cell{Addr: 8 * n, Value: n % 4})
	}
	l.First = append(l.First, api.Cell{Addr: 1<<64 - 8, Value: 2})
	holdOutcomes(t, l, rows(2, 3, 2), rows(2, 3, 2))
	if _, err := litmus.Fenced(l); err != api.ErrArg {
		t.Errorf("%d", err)
	}
	l.Image.Words = l.Image.Words[2:]
	l.Image.Start[0].PC -= 8
	f, err := litmus.Fenced(l)
	if err != api.OK || len(f.Image.Words) != api.MaxCode || f.Image.Start[0].PC != l.Image.Start[0].PC {
		t.Errorf("%d: %d words", err, len(f.Image.Words))
	}
}
