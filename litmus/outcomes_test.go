package litmus_test

import (
	"math"
	"slices"
	"testing"

	"fencepost/api"
	"fencepost/litmus"
)

// P13.1: Model, Turns

// rows answers outcomes of so many registers, each told by its numbers, one behind the other.
func rows(many int, l ...uint64) [][]uint64 {
	var all [][]uint64
	for ; len(l) > 0; l = l[many:] {
		all = append(all, l[:many])
	}
	return all
}

// all answers all outcomes of so many registers that are 0 or 1 each.
func all(many int) [][]uint64 {
	var l [][]uint64
	for n := range 1 << many {
		one := make([]uint64, many)
		for at := range one {
			one[at] = uint64(n >> (many - 1 - at) & 1)
		}
		l = append(l, one)
	}
	return l
}

// but answers outcomes without some of them.
func but(l [][]uint64, not ...[]uint64) [][]uint64 {
	return slices.DeleteFunc(l, func(one []uint64) bool {
		return slices.ContainsFunc(not, func(other []uint64) bool { return slices.Equal(one, other) })
	})
}

// holdOutcomes holds what a test comes to under the model, and by turns.
func holdOutcomes(t *testing.T, l api.Litmus, model, turns [][]uint64) {
	t.Helper()
	if got, err := litmus.Model(l); err != api.OK || told(got) != told(model) {
		t.Errorf("Model = %v, %d, want %v of %s", got, err, model, tell(l))
	}
	if got, err := litmus.Turns(l); err != api.OK || told(got) != told(turns) {
		t.Errorf("Turns = %v, %d, want %v of %s", got, err, turns, tell(l))
	}
}

func TestOutcomesOfTheExamples(t *testing.T) {
	four := func() [][]uint64 { return all(2) }
	for _, x := range []struct {
		name         string
		model, turns [][]uint64
	}{
		{"sb", four(), but(four(), []uint64{0, 0})},
		{"sbf", but(four(), []uint64{0, 0}), but(four(), []uint64{0, 0})},
		{"mp", four(), but(four(), []uint64{1, 0})},
		{"mpf", but(four(), []uint64{1, 0}), but(four(), []uint64{1, 0})},
		{"lb", four(), but(four(), []uint64{1, 1})},
		{"lbd", rows(2, 0, 0), rows(2, 0, 0)},
		{"corr", but(four(), []uint64{1, 0}), but(four(), []uint64{1, 0})},
	} {
		l, is := litmus.Named(x.name)
		if !is {
			t.Fatalf("there is no %s", x.name)
		}
		holdOutcomes(t, l, x.model, x.turns)
		if told(plainModel(l)) != told(x.model) || told(plainTurns(l)) != told(x.turns) {
			t.Errorf("the reference tells of %s: %v, %v", x.name, plainModel(l), plainTurns(l))
		}
		f, err := litmus.Fenced(l)
		if err != api.OK {
			t.Fatalf("Fenced(%s): %d", x.name, err)
		}
		holdOutcomes(t, f, x.turns, x.turns)
	}
}

func TestOutcomesOfTheChaptersTable(t *testing.T) {
	for _, x := range []struct {
		name string
		one  []uint64
		has  bool
	}{
		{"sb", []uint64{0, 0}, true}, {"sbf", []uint64{0, 0}, false}, {"mp", []uint64{1, 0}, true}, {"mpf", []uint64{1, 0}, false},
		{"lb", []uint64{1, 1}, true}, {"lbd", []uint64{1, 1}, false}, {"corr", []uint64{1, 0}, false},
	} {
		l, _ := litmus.Named(x.name)
		got, err := litmus.Model(l)
		if err != api.OK || litmus.Has(got, x.one) != x.has {
			t.Errorf("%s: Has(%v, %v) = %t", x.name, got, x.one, !x.has)
		}
	}
}

func TestOutcomesOfOneHart(t *testing.T) {
	both := func(l api.Litmus, outcomes ...uint64) {
		t.Helper()
		want := rows(len(l.Look), outcomes...)
		holdOutcomes(t, l, want, want)
	}
	both(litmusOf(t, lines{}), 0, 0)
	both(looking(litmusOf(t, lines{"addi x9, x5, 6", "fence rw, rw", "addi x0, x5, 9"}), 0, 9, 0, 0, 0, 6), 7, 0, 8)
	both(litmusOf(t, lines{"ld x10, 0(x6)"}), 0, 0)
	both(with(litmusOf(t, lines{"ld x10, 0(x6)", "ld x11, 0(x7)"}), 8, 7, 16, 1<<63), 7, 1<<63)
	// It finds what it stored itself.
	both(litmusOf(t, lines{"sd x5, 0(x6)", "ld x10, 0(x6)", "ld x11, 0(x7)"}), 1, 0)
	both(with(litmusOf(t, lines{"ld x10, 0(x6)", "sd x5, 0(x6)", "ld x11, 0(x6)"}), 8, 3), 3, 1)
	both(with(litmusOf(t, lines{"amoor.d x10, x5, (x6)", "ld x11, 0(x6)"}), 8, 0, 800, 1), 0, 1)
	both(with(litmusOf(t, lines{"amoswap.d x10, x5, (x6)", "amoswap.d x11, x6, (x6)", "ld x5, 0(x6)"}), 8, 3), 3, 1)
	// An sc wins, or loses.
	both(litmusOf(t, lines{"lr.d x10, (x6)", "sc.d x11, x5, (x6)"}), 0, 0, 0, 1)
	both(litmusOf(t, lines{"lr.d x10, (x6)", "sc.d x11, x5, (x6)", "ld x10, 0(x6)"}), 0, 1, 1, 0)
	both(litmusOf(t, lines{"lr.d x10, (x6)", "sd x5, 0(x6)", "sc.d x11, x0, (x6)", "ld x10, 0(x6)"}), 0, 0, 1, 1)
	// It always loses: not held, another address, behind another one.
	both(litmusOf(t, lines{"sc.d x11, x5, (x6)", "ld x10, 0(x6)"}), 0, 1)
	both(litmusOf(t, lines{"lr.d x10, (x7)", "sc.d x11, x5, (x6)", "ld x10, 0(x6)"}), 0, 1)
	both(litmusOf(t, lines{"lr.d x10, (x6)", "sc.d x10, x5, (x6)", "sc.d x11, x5, (x6)"}), 0, 1, 1, 1)
	both(litmusOf(t, lines{"lr.d x10, (x6)", "sc.d x10, x5, (x7)", "sc.d x11, x5, (x6)"}), 1, 1)
	both(litmusOf(t, lines{"lr.d x10, (x6)", "sc.d x10, x5, (x6)", "lr.d x11, (x6)", "sc.d x11, x5, (x6)"}), 0, 0, 0, 1, 1, 0, 1, 1)
	// As many as there may be.
	both(looking(litmusOf(t, lines{"lr.d x1, (x6)", "sc.d x2, x5, (x6)", "lr.d x1, (x6)", "sc.d x3, x5, (x6)", "lr.d x1, (x6)", "sc.d x4, x5, (x6)"}), 0, 2, 0, 3, 0, 4),
		slices.Concat(all(3)...)...)
}

func TestOutcomesOfScsOfTwoHarts(t *testing.T) {
	one := lines{"lr.d x10, (x6)", "sc.d x11, x5, (x6)"}
	// Both do not win of the same.
	want := rows(4, 0, 0, 0, 1, 0, 0, 1, 0, 0, 0, 1, 1, 0, 1, 0, 0, 0, 1, 0, 1, 1, 0, 0, 0, 1, 1, 0, 0)
	holdOutcomes(t, litmusOf(t, one, one), want, want)
	// Another hart stores between: it loses, or what that stored comes ahead of both, or behind both.
	l := looking(litmusOf(t, one, lines{"addi x5, x0, 2", "sd x5, 0(x6)", "ld x12, 0(x6)"}), 0, 10, 0, 11, 1, 12)
	want = rows(3, 0, 0, 2, 0, 1, 2, 2, 0, 1, 2, 0, 2, 2, 1, 2)
	holdOutcomes(t, l, want, want)
	// An amo between, and one elsewhere.
	l = looking(litmusOf(t, one, lines{"amoswap.d x10, x0, (x6)"}), 0, 10, 0, 11, 1, 10)
	want = rows(3, 0, 0, 0, 0, 0, 1, 0, 1, 0)
	holdOutcomes(t, l, want, want)
	l = looking(litmusOf(t, one, lines{"amoswap.d x10, x5, (x7)"}), 0, 10, 0, 11, 1, 10)
	want = rows(3, 0, 0, 0, 0, 1, 0)
	holdOutcomes(t, l, want, want)
	// Three at once.
	l = looking(litmusOf(t, one, one, one), 0, 11, 1, 11, 2, 11)
	holdOutcomes(t, l, all(3), all(3))
	l = litmusOf(t, one, one, one)
	got, _ := litmus.Model(l)
	// All win only one behind the other.
	for _, o := range got {
		if o[1]+o[3]+o[5] == 0 && o[0]+o[2]+o[4] != 2 {
			t.Errorf("%v", o)
		}
	}
}

func TestOutcomesOfAmos(t *testing.T) {
	swap := func(mark string) []lines {
		return []lines{{"amoswap.d" + mark + " x0, x5, (x6)", "ld x10, 0(x7)"}, {"amoswap.d" + mark + " x0, x5, (x7)", "ld x10, 0(x6)"}}
	}
	not := but(all(2), []uint64{0, 0})
	for mark, model := range map[string][][]uint64{"": all(2), ".rl": all(2), ".aq": not, ".aqrl": not} {
		holdOutcomes(t, looking(litmusOf(t, swap(mark)...), 0, 10, 1, 10), model, not)
	}
	// Who is first of so many.
	one := lines{"amoor.d x10, x5, (x6)"}
	want := rows(4, 0, 1, 1, 1, 1, 0, 1, 1, 1, 1, 0, 1, 1, 1, 1, 0)
	holdOutcomes(t, looking(litmusOf(t, one, one, one, one), 0, 10, 1, 10, 2, 10, 3, 10), want, want)
	// Each finds another value.
	l := with(looking(litmusOf(t, lines{"amoswap.d x10, x5, (x6)"}, lines{"amoswap.d x10, x7, (x6)"}), 0, 10, 1, 10), 8, 3)
	want = rows(2, 3, 1, 16, 3)
	holdOutcomes(t, l, want, want)
}

func TestOutcomesOfMoreHarts(t *testing.T) {
	writers := []lines{{"sd x5, 0(x6)"}, {"sd x5, 0(x7)"}}
	readers := []lines{{"ld x10, 0(x6)", "ld x11, 0(x7)"}, {"ld x10, 0(x7)", "ld x11, 0(x6)"}}
	look := []int{2, 10, 2, 11, 3, 10, 3, 11}
	l := looking(litmusOf(t, append(writers, readers...)...), look...)
	not := but(all(4), []uint64{1, 0, 1, 0})
	holdOutcomes(t, l, all(4), not)
	// With fences among the loads.
	for n := range readers {
		readers[n] = slices.Insert(readers[n], 1, "fence r, r")
	}
	l = looking(litmusOf(t, append(writers, readers...)...), look...)
	holdOutcomes(t, l, not, not)
	f, err := litmus.Fenced(l)
	if err != api.OK {
		t.Fatal(err)
	}
	holdOutcomes(t, f, not, not)
	// What is seen goes on from hart to hart: by what hangs on it.
	l = looking(litmusOf(t, lines{"sd x5, 0(x6)"}, lines{"ld x10, 0(x6)", "sd x10, 0(x7)"}, lines{"ld x10, 0(x7)", "xor x12, x10, x10", "add x12, x12, x6", "ld x11, 0(x12)"}), 1, 10, 2, 10, 2, 11)
	want := rows(3, 0, 0, 0, 0, 0, 1, 1, 0, 0, 1, 0, 1, 1, 1, 1)
	holdOutcomes(t, l, want, want)
	l = looking(litmusOf(t, lines{"sd x5, 0(x6)"}, lines{"ld x10, 0(x6)", "sd x10, 0(x7)"}, lines{"ld x10, 0(x7)", "ld x11, 0(x6)"}), 1, 10, 2, 10, 2, 11)
	holdOutcomes(t, l, rows(3, 0, 0, 0, 0, 0, 1, 1, 0, 0, 1, 0, 1, 1, 1, 0, 1, 1, 1), want)
}

func TestOutcomesByWhatHangsTogether(t *testing.T) {
	writer := lines{"sd x5, 0(x6)", "fence w, w", "sd x5, 0(x7)"}
	not := but(all(2), []uint64{1, 0})
	look := []int{1, 10, 1, 11}
	holdOutcomes(t, looking(litmusOf(t, writer, lines{"ld x10, 0(x7)", "ld x11, 0(x6)"}), look...), all(2), not)
	holdOutcomes(t, looking(litmusOf(t, writer, lines{"ld x10, 0(x7)", "xor x12, x10, x10", "add x12, x12, x6", "ld x11, 0(x12)"}), look...), not, not)
	holdOutcomes(t, looking(litmusOf(t, writer, lines{"ld x10, 0(x7)", "addi x12, x6, 0", "ld x11, 0(x12)"}), look...), all(2), not)
	holdOutcomes(t, looking(litmusOf(t, writer, lines{"lr.d.aq x10, (x7)", "ld x11, 0(x6)"}), look...), not, not)
	holdOutcomes(t, looking(litmusOf(t, writer, lines{"lr.d x10, (x7)", "ld x11, 0(x6)"}), look...), all(2), not)
	// Stores that hang by data.
	bound := func(x, y string) lines {
		return lines{"ld x10, 0(" + x + ")", "xor x12, x10, x10", "add x12, x12, x5", "sd x12, 0(" + y + ")"}
	}
	not = but(all(2), []uint64{1, 1})
	look = []int{0, 10, 1, 10}
	holdOutcomes(t, looking(litmusOf(t, bound("x6", "x7"), bound("x7", "x6")), look...), not, not)
	holdOutcomes(t, looking(litmusOf(t, bound("x6", "x7"), lines{"ld x10, 0(x7)", "sd x5, 0(x6)"}), look...), all(2), not)
	// What a hart stored it finds ahead of all others.
	mine := func(x, y string) lines {
		return lines{"sd x5, 0(" + x + ")", "ld x10, 0(" + x + ")", "ld x11, 0(" + y + ")"}
	}
	look = []int{0, 10, 0, 11, 1, 10, 1, 11}
	model := rows(4, 1, 0, 1, 0, 1, 0, 1, 1, 1, 1, 1, 0, 1, 1, 1, 1)
	holdOutcomes(t, looking(litmusOf(t, mine("x6", "x7"), mine("x7", "x6")), look...), model, model[1:])
	// Also where what it found holds up what it looks at next: by a fence, by an address.
	for _, between := range []lines{{"fence r, r"}, {"xor x12, x10, x10", "add x6, x6, x12", "add x7, x7, x12"}} {
		harts := []lines{mine("x6", "x7"), mine("x7", "x6")}
		for n := range harts {
			harts[n] = slices.Insert(harts[n], 2, between...)
		}
		holdOutcomes(t, looking(litmusOf(t, harts...), look...), model, model[1:])
	}
	// An address tells where it is stored.
	l := looking(with(litmusOf(t, lines{"ld x10, 0(x6)", "sd x5, 0(x10)"}, lines{"sd x7, 0(x6)", "ld x11, 0(x7)"}), 8, 24), 0, 10, 1, 11)
	holdOutcomes(t, l, rows(2, 16, 0, 16, 1, 24, 0), rows(2, 16, 0, 16, 1, 24, 0))
}

func TestOutcomesOfOtherEnds(t *testing.T) {
	// By an address that is none: what is behind is not done.
	l := looking(litmusOf(t, lines{"ld x10, 0(x7)", "sd x5, 0(x10)", "addi x11, x0, 9", "sd x5, 0(x8)"}, lines{"sd x5, 0(x7)", "ld x12, 0(x8)"}), 0, 10, 0, 11, 1, 12)
	// It ends where it found 1.
	want := rows(3, 0, 9, 0, 0, 9, 1, 1, 0, 0)
	model, err := litmus.Model(l)
	turns, _ := litmus.Turns(l)
	if err != api.OK || told(model) != told(want) || told(turns) != told(want) {
		t.Errorf("%v, %v, want %v", model, turns, want)
	}
	for _, text := range []string{"ld x10, 4(x6)", "sd x5, 1(x6)", "lr.d x10, (x5)", "sc.d x10, x5, (x5)", "amoswap.d x10, x5, (x5)"} {
		l := litmusOf(t, lines{text, "addi x11, x0, 9"}, lines{"ld x10, 0(x6)"})
		holdOutcomes(t, l, rows(4, 0, 0, 0, 0), rows(4, 0, 0, 0, 0))
	}
	// By a word that is none's, behind the last one.
	for _, behind := range []lines{{".00000000", "addi x11, x0, 9"}, {".ffffffff"}, {}, {"ebreak"}} {
		l := litmusOf(t, lines{})
		l.Image.Words = words(t, append(lines{"ld x10, 0(x6)", "addi x11, x10, 2"}, behind...)...)
		holdOutcomes(t, with(l, 8, 1), rows(2, 1, 3), rows(2, 1, 3))
		l.Image.Base = 1<<31 - 4
		l.Image.Start[0].PC = l.Image.Base
		holdOutcomes(t, with(l, 8, 1), rows(2, 1, 3), rows(2, 1, 3))
		// At the very beginning.
		l.Image.Words = words(t, append(behind, "ebreak")...)[:max(1, len(behind))]
		holdOutcomes(t, with(l, 8, 1), rows(2, 0, 0), rows(2, 0, 0))
	}
}

func TestOutcomesOfSharedWords(t *testing.T) {
	// All harts have the same words, and other registers.
	l := litmusOf(t, lines{"sd x5, 0(x6)", "ld x10, 0(x7)"}, lines{})
	l.Image.Start[1].PC = 0
	l.Image.Start[1].X[6], l.Image.Start[1].X[7] = 16, 8
	l = looking(l, 0, 10, 1, 10)
	holdOutcomes(t, l, all(2), but(all(2), []uint64{0, 0}))
	// One begins in the middle of the other one's.
	l.Image.Start[1].PC = 4
	holdOutcomes(t, l, rows(2, 0, 0, 0, 1), rows(2, 0, 0, 0, 1))
}

func TestOutcomesAreToldRisingAndOnce(t *testing.T) {
	// Two stores at one address: 3 values, that come of many candidates.
	l := litmusOf(t, lines{"addi x9, x0, -1", "sd x9, 0(x6)"}, lines{"slli x9, x5, 63", "sd x9, 0(x6)"}, lines{"sd x5, 0(x6)"}, lines{"ld x10, 0(x6)"})
	want := rows(1, 0, 1, 1<<63, math.MaxUint64)
	holdOutcomes(t, looking(l, 3, 10), want, want)
	// Of two the first one tells ahead of the second one; of one that is looked at twice both are told.
	l = litmusOf(t, lines{"addi x9, x0, -1", "sd x9, 0(x6)"}, lines{"ld x10, 0(x6)", "xori x11, x10, -1"})
	m := uint64(math.MaxUint64)
	holdOutcomes(t, looking(l, 1, 10, 1, 11), rows(2, 0, m, m, 0), rows(2, 0, m, m, 0))
	holdOutcomes(t, looking(l, 1, 11, 1, 10), rows(2, 0, m, m, 0), rows(2, 0, m, m, 0))
	holdOutcomes(t, looking(l, 1, 10, 1, 10, 0, 5, 1, 10), rows(4, 0, 0, 1, 0, m, m, 1, m), rows(4, 0, 0, 1, 0, m, m, 1, m))
	holdOutcomes(t, looking(l, 0, 5, 1, 0, 1, 11), rows(3, 1, 0, 0, 1, 0, m), rows(3, 1, 0, 0, 1, 0, m))
	eight := []int{1, 10, 1, 11, 0, 0, 1, 6, 1, 7, 0, 31, 1, 11, 1, 10}
	holdOutcomes(t, looking(l, eight...), rows(8, 0, m, 0, 8, 16, 0, m, 0, m, 0, 0, 8, 16, 0, 0, m), rows(8, 0, m, 0, 8, 16, 0, m, 0, m, 0, 0, 8, 16, 0, 0, m))
	// Nothing of what differs is looked at.
	holdOutcomes(t, looking(l, 1, 5), rows(1, 1), rows(1, 1))
	holdOutcomes(t, looking(l, 1, 0), rows(1, 0), rows(1, 0))
}

func TestOutcomesOfValuesThatAreMetOnly(t *testing.T) {
	// What a load finds is of its own address.
	l := with(looking(litmusOf(t, lines{"ld x10, 0(x6)"}, lines{"sd x5, 0(x7)", "ld x10, 0(x8)"}), 0, 10, 1, 10), 8, 7, 24, 3)
	holdOutcomes(t, l, rows(2, 7, 3), rows(2, 7, 3))
	// Values that would only hold one another up are not met.
	ring := lines{"ld x10, 0(x6)", "sd x10, 0(x7)"}
	back := lines{"ld x10, 0(x7)", "sd x10, 0(x6)"}
	holdOutcomes(t, with(looking(litmusOf(t, ring, back), 0, 10, 1, 10), 800, 1, 808, 42), rows(2, 0, 0), rows(2, 0, 0))
}

func TestOutcomesAtRandom(t *testing.T) {
	d, met, apart := dice(5), 0, 0
	for range 600 {
		l := d.litmus(t, 4)
		if litmus.Check(l) != api.OK {
			continue
		}
		met++
		model, turns := plainModel(l), plainTurns(l)
		holdOutcomes(t, l, model, turns)
		if len(model) > len(turns) {
			apart++
		}
		if t.Failed() {
			return
		}
	}
	if met < 350 || apart < 20 {
		t.Errorf("%d tests, of %d the model comes to more", met, apart)
	}
}

func TestOutcomesOfGreatOnesAtRandom(t *testing.T) {
	d, met := dice(6), 0
	for range 200 {
		l := d.litmus(t, 6)
		if litmus.Check(l) != api.OK {
			continue
		}
		met++
		turns := plainTurns(l)
		if got, err := litmus.Turns(l); err != api.OK || told(got) != told(turns) {
			t.Fatalf("Turns = %v, %d, want %v of %s", got, err, turns, tell(l))
		}
	}
	if met < 80 {
		t.Errorf("%d tests", met)
	}
	// All orders of six are many.
	for met = 0; met < 40; {
		l := d.litmus(t, 6)
		if litmus.Check(l) != api.OK || len(plainMet(l)) > 2 {
			continue
		}
		met++
		want := plainModel(l)
		if got, err := litmus.Model(l); err != api.OK || told(got) != told(want) {
			t.Fatalf("Model = %v, %d, want %v of %s", got, err, want, tell(l))
		}
	}
}
