package litmus_test

import (
	"slices"
	"testing"

	"fencepost/api"
	"fencepost/litmus"
)

// Rules 3 and 6: an answer is new memory, what was handed in stays as it was, and nothing is kept.

// wholly tells all that a test has, its lists' room to spare too.
func wholly(l api.Litmus) string {
	m := l.Image
	return told(m.Base) + told(m.Words[:cap(m.Words)]) + told(m.Start[:cap(m.Start)]) + told(l.First[:cap(l.First)]) + told(l.Look[:cap(l.Look)])
}

// wide gives a test's lists room to spare, with something in it.
func wide(t *testing.T, l api.Litmus) api.Litmus {
	t.Helper()
	m := &l.Image
	m.Words = append(slices.Clone(m.Words), words(t, "ld x10, 0(x6)", "ecall", "ebreak")...)[:len(m.Words)]
	m.Start = append(slices.Clone(m.Start), api.Hart{PC: 3}, api.Hart{End: 1})[:len(m.Start)]
	l.First = append(slices.Clone(l.First), at(4, 4, 8, 9)...)[:len(l.First)]
	l.Look = append(slices.Clone(l.Look), api.Reg{Hart: 9, X: 99}, api.Reg{Hart: -1, X: -1})[:len(l.Look)]
	return l
}

// holdOwn holds that what is written into one of these lists, or into its room to spare, is not to be seen in another one.
func holdOwn[T comparable](t *testing.T, mark func(list int) T, lists ...[]T) {
	t.Helper()
	for number, l := range lists {
		room := l[:cap(l)]
		for place := range room {
			room[place] = mark(number)
		}
	}
	for number, l := range lists {
		for _, x := range l[:cap(l)] {
			if x != mark(number) {
				t.Fatalf("list %d shares memory with another one: %v", number, x)
			}
		}
	}
}

// overwrite writes over all of a test.
func overwrite(t *testing.T, l api.Litmus) {
	t.Helper()
	holdOwn(t, func(n int) uint32 { return uint32(n + 77) }, l.Image.Words)
	holdOwn(t, func(n int) api.Hart { return api.Hart{PC: 77, End: -9} }, l.Image.Start)
	holdOwn(t, func(n int) api.Cell { return api.Cell{Addr: 77, Value: 77} }, l.First)
	holdOwn(t, func(n int) api.Reg { return api.Reg{Hart: 77, X: 77} }, l.Look)
}

// overwriteAll writes over all outcomes, and the list of them.
func overwriteAll(t *testing.T, lists ...[][]uint64) {
	t.Helper()
	var all [][]uint64
	for _, l := range lists {
		all = append(all, l...)
	}
	holdOwn(t, func(n int) uint64 { return uint64(n) + 1<<40 }, all...)
	for _, l := range lists {
		clear(l[:cap(l)])
	}
}

func TestAnswersAreNewMemory(t *testing.T) {
	d, met := dice(11), 0
	for range 150 {
		l := d.litmus(t, 4)
		if litmus.Check(l) != api.OK {
			continue
		}
		met++
		l = wide(t, l)
		was := wholly(l)
		modelA, _ := litmus.Model(l)
		modelB, _ := litmus.Model(l)
		turnsA, _ := litmus.Turns(l)
		turnsB, _ := litmus.Turns(l)
		fencedA, _ := litmus.Fenced(l)
		fencedB, _ := litmus.Fenced(l)
		litmus.Has(modelA, turnsA[0])
		tellB := func() string { return told(modelB) + told(turnsB) + wholly(fencedB) }
		want, wantA := tellB(), told(modelA)+told(turnsA)+told(fencedA)
		if wholly(l) != was || wantA != told(modelB)+told(turnsB)+told(fencedB) {
			t.Fatalf("%s\nwas %s", wholly(l), was)
		}
		overwriteAll(t, modelA, turnsA)
		overwrite(t, fencedA)
		if wholly(l) != was || tellB() != want {
			t.Fatalf("answers share memory: %s", tell(l))
		}
		// What is handed in may be written over behind the call.
		overwrite(t, l)
		if tellB() != want {
			t.Fatalf("an answer shares memory with what was handed in: %s", tell(l))
		}
	}
	if met < 100 {
		t.Errorf("%d tests", met)
	}
}

func TestHasChangesNothing(t *testing.T) {
	l, one := slices.Grow(rows(2, 3, 1, 0, 5), 3), []uint64{0, 5, 7}[:2]
	if !litmus.Has(l, one) || told(l) != "[[3 1] [0 5]]" || told(one[:3]) != "[0 5 7]" {
		t.Errorf("%v, %v", l, one[:3])
	}
}

func TestNamedIsNewMemory(t *testing.T) {
	for _, name := range litmus.Names() {
		a, _ := litmus.Named(name)
		b, _ := litmus.Named(name)
		want := wholly(b)
		overwrite(t, a)
		if c, _ := litmus.Named(name); wholly(b) != want || told(c) != told(b) {
			t.Errorf("%s: %s", name, tell(c))
		}
	}
	a, b := litmus.Names(), litmus.Names()
	want := told(b[:cap(b)])
	holdOwn(t, func(int) string { return "x" }, a)
	if told(b[:cap(b)]) != want || told(litmus.Names()) != told(b) {
		t.Errorf("%q", b)
	}
}

func TestAnswersHangOnWhatIsGivenAlone(t *testing.T) {
	l, _ := litmus.Named("mp")
	tellAll := func() string {
		a, errA := litmus.Model(l)
		b, errB := litmus.Turns(l)
		c, errC := litmus.Fenced(l)
		return told(a) + told(b) + told(c) + told(errA) + told(errB) + told(errC) + told(litmus.Check(l))
	}
	want := tellAll()
	d := dice(12)
	for range 40 {
		other := d.litmus(t, 4)
		litmus.Model(other)
		litmus.Turns(other)
		litmus.Fenced(other)
		litmus.Check(api.Litmus{})
		litmus.Named("sb")
		if got := tellAll(); got != want {
			t.Fatalf("%s, was %s", got, want)
		}
	}
}

func TestAnswersWhereTheListsShareMemory(t *testing.T) {
	// All harts and looks are the same; First is a part of a list of more.
	first := at(8, 1, 16, 1, 24, 1)
	l := litmusOf(t, lines{"ld x10, 0(x6)", "ld x11, 0(x7)"}, lines{})
	l.First, l.Look = first[:1], l.Look[:2]
	f, err := litmus.Fenced(l)
	if err != api.OK || len(f.First) != 1 {
		t.Fatalf("%d: %v", err, f.First)
	}
	f.First = append(f.First, api.Cell{})
	if told(first) != told(at(8, 1, 16, 1, 24, 1)) {
		t.Errorf("%v", first)
	}
	holdOutcomes(t, l, rows(2, 1, 0), rows(2, 1, 0))
}
