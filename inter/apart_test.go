package inter_test

import (
	"slices"
	"testing"

	"fencepost/api"
	"fencepost/inter"
)

// Rules 3 and 6: an answer is new memory, what was handed in stays as it was, and nothing is kept.

// wholeCand tells all that a candidate has, its lists' room to spare too.
func wholeCand(c api.Cand) string {
	all := api.Cand{First: c.First[:cap(c.First)], From: c.From[:cap(c.From)], Order: c.Order[:cap(c.Order)]}
	for _, l := range c.Harts[:cap(c.Harts)] {
		var events []api.Event
		for _, e := range l[:cap(l)] {
			d := e.Deps
			e.Deps = api.Deps{Addr: d.Addr[:cap(d.Addr)], Data: d.Data[:cap(d.Data)], Way: d.Way[:cap(d.Way)]}
			events = append(events, e)
		}
		all.Harts = append(all.Harts, events)
	}
	return told(all)
}

// wholeWeave tells all that an image and a weave have, their lists' room to spare too.
func wholeWeave(m api.Image, w api.Weave) string {
	return told(m.Base) + told(m.Words[:cap(m.Words)]) + told(m.Start[:cap(m.Start)]) +
		told(w.First[:cap(w.First)]) + told(w.Harts[:cap(w.Harts)]) + told(w.Wins[:cap(w.Wins)])
}

// wide gives a candidate's lists room to spare, with something in it.
func wide(c api.Cand) api.Cand {
	c.First = append(slices.Clone(c.First), at(4, 4, 8, 8, 8, 9)...)[:len(c.First)]
	c.Harts = append(slices.Clone(c.Harts), row{store(8, 5)}, row{fence()})[:len(c.Harts)]
	for hart, l := range c.Harts {
		l = append(slices.Clone(l), store(8, 77), api.Event{Kind: 99}, load(4, 4))[:len(l)]
		for at := range l {
			d := &l[at].Deps
			*d = api.Deps{Addr: roomy(d.Addr...), Data: roomy(d.Data...), Way: roomy(d.Way...)}
		}
		c.Harts[hart] = l
	}
	c.From, c.Order = roomy(c.From...), roomy(c.Order...)
	return c
}

// wideWeave gives an image's and a weave's lists room to spare, with something in it.
func wideWeave(t *testing.T, m api.Image, w api.Weave) (api.Image, api.Weave) {
	m.Words = append(slices.Clone(m.Words), words(t, "ebreak", "ecall")...)[:len(m.Words)]
	m.Start = append(slices.Clone(m.Start), api.Hart{PC: 3}, api.Hart{End: 1})[:len(m.Start)]
	w.First = append(slices.Clone(w.First), at(4, 4, 8, 9)...)[:len(w.First)]
	w.Harts = roomy(w.Harts...)
	w.Wins = append(slices.Clone(w.Wins), false, true, false)[:len(w.Wins)]
	return m, w
}

// numberLists answers all lists of numbers of rows.
func numberLists(rows ...[]api.Event) []*[]int {
	var lists []*[]int
	for _, l := range rows {
		for n := range l {
			d := &l[n].Deps
			lists = append(lists, &d.Addr, &d.Data, &d.Way)
		}
	}
	return lists
}

// holdOwn holds that what is written into one of these lists, or into its room to spare, is not to be seen in another one.
func holdOwn[T comparable](t *testing.T, lists []*[]T, mark func(list int) T) {
	t.Helper()
	for number, p := range lists {
		room := (*p)[:cap(*p)]
		for place := range room {
			room[place] = mark(number)
		}
	}
	for number, p := range lists {
		for _, x := range (*p)[:cap(*p)] {
			if x != mark(number) {
				t.Fatalf("list %d shares memory with another one: %v", number, x)
			}
		}
	}
}

// What is written into a list, by its number.
func numberMark(list int) int    { return -1000 - list }
func cellMark(list int) api.Cell { return api.Cell{Addr: uint64(list), Value: 1 << 40} }
func outMark(list int) uint64    { return 1<<50 + uint64(list) }
func markMark(list int) api.Mark { return api.Mark{Kind: -list - 9} }

// holdRowsOwn holds the same of lists of events.
func holdRowsOwn(t *testing.T, rows [][]api.Event) {
	t.Helper()
	for number, l := range rows {
		room := l[:cap(l)]
		for place := range room {
			room[place] = api.Event{Hart: -9, At: number, Kind: 77}
		}
	}
	for number, l := range rows {
		for _, e := range l[:cap(l)] {
			if e.Hart != -9 || e.At != number || e.Kind != 77 {
				t.Fatalf("row %d shares memory with another one: %v", number, e)
			}
		}
	}
}

// holdCandOwn holds that no two lists of a candidate share memory, by writing over all of it.
func holdCandOwn(t *testing.T, c api.Cand) {
	t.Helper()
	holdOwn(t, append(numberLists(c.Harts...), &c.From, &c.Order), numberMark)
	holdRowsOwn(t, c.Harts)
	holdOwn(t, []*[]api.Cell{&c.First}, cellMark)
}

// holdWovenOwn holds that no two lists of what came of a weave share memory, by writing over all of it.
func holdWovenOwn(t *testing.T, w api.Woven) {
	t.Helper()
	rows := slices.Clone(w.Cand.Harts)
	outs, marks := []*[]uint64{}, []*[]api.Mark{}
	for number := range w.Traces {
		x := &w.Traces[number]
		rows = append(rows, x.Events)
		outs, marks = append(outs, &x.Outs), append(marks, &x.Marks)
	}
	holdOwn(t, append(numberLists(rows...), &w.Cand.From, &w.Cand.Order), numberMark)
	holdRowsOwn(t, rows)
	holdOwn(t, []*[]api.Cell{&w.Cand.First, &w.Memory}, cellMark)
	holdOwn(t, outs, outMark)
	holdOwn(t, marks, markMark)
}

func TestWhatComesOfAWeaveIsNewMemory(t *testing.T) {
	many(t, 14, 250, func(m api.Image, w api.Weave) {
		m, w = wideWeave(t, m, w)
		was := wholeWeave(m, w)
		inter.Check(m, w)
		a, err := inter.Do(m, w)
		b, _ := inter.Do(m, w)
		want := told(b)
		if err != api.OK || told(a) != want || !inter.Same(a, b) {
			t.Fatalf("%d: %s, want %s", err, told(a), want)
		}
		if wholeWeave(m, w) != was {
			t.Fatalf("what was handed in was changed: %s, is %s", was, wholeWeave(m, w))
		}
		holdWovenOwn(t, a)
		if wholeWeave(m, w) != was || told(b) != want {
			t.Fatalf("answers share memory: %s", told(b))
		}
		if c, _ := inter.Do(m, w); told(c) != want {
			t.Fatalf("%s, want %s", told(c), want)
		}
		// What is handed in may be written over behind the call.
		clear(m.Words)
		clear(m.Start)
		clear(w.First)
		clear(w.Harts)
		clear(w.Wins)
		if told(b) != want {
			t.Fatalf("the answer shares memory with what was handed in: %s, want %s", told(b), want)
		}
	})
}

// holdApart holds all answers of a candidate to share no memory with it, nor with one another, and it to stay as it was.
func holdApart(t *testing.T, m api.Image, c api.Cand) {
	t.Helper()
	c = wide(c)
	was, image := wholeCand(c), wholeWeave(m, api.Weave{})
	stays := func() bool { return wholeCand(c) == was && wholeWeave(m, api.Weave{}) == image }
	plain := inter.Plain(c)
	turns, is := inter.Turns(m, c)
	again, _ := inter.Turns(m, c)
	want := told(turns)
	if !stays() {
		t.Fatalf("asked of %s, it is %s", was, wholeCand(c))
	}
	holdOwn(t, []*[]int{&turns}, numberMark)
	if !stays() || told(again) != want {
		t.Fatalf("turns share memory: %s, want %s", told(again), want)
	}
	var cuts []api.Cand
	ranges := [][2]uint64{{8, 16}, {0, 1 << 63}, {16, 8}}
	var wantCuts []string
	for _, r := range ranges {
		a, b := inter.Shared(c, r[0], r[1]), inter.Shared(c, r[0], r[1])
		cuts, wantCuts = append(cuts, b), append(wantCuts, told(b))
		if told(a) != told(b) || !stays() {
			t.Fatalf("asked of %s, it is %s", was, wholeCand(c))
		}
		holdCandOwn(t, a)
	}
	if !stays() {
		t.Fatalf("an answer shares memory with what was handed in: %s, now %s", was, wholeCand(c))
	}
	if last, ok := inter.Turns(m, c); inter.Plain(c) != plain || ok != is || told(last) != want {
		t.Fatalf("%s, want %s", told(last), want)
	}
	// What is handed in may be written over behind the calls.
	holdCandOwn(t, c)
	if told(again) != want {
		t.Fatalf("turns share memory: %s, want %s", told(again), want)
	}
	for number, cut := range cuts {
		if told(cut) != wantCuts[number] {
			t.Fatalf("cut to %v, it shares memory: %s, want %s", ranges[number], told(cut), wantCuts[number])
		}
	}
}

func TestAnswersOfCandidatesAreNewMemory(t *testing.T) {
	many(t, 15, 100, func(m api.Image, w api.Weave) {
		m, _ = wideWeave(t, m, w)
		holdApart(t, m, copied(must(t, m, w).Cand))
	})
	d := dice(16)
	m := image(t, lines{"sd x5, 0(x6)"})
	for range 400 {
		holdApart(t, m, copied(d.cand(1+d.below(4), 6, 1)))
	}
	for _, c := range badCands() {
		if len(c.From) < 100 {
			holdApart(t, m, copied(c))
		}
	}
}

func TestAnswersShareNoMemoryWhereTheListsDo(t *testing.T) {
	// All lists of deps are parts of one list, the empty ones too; the rows are parts of one, Order and From begin at one place.
	l := []int{0, 1, 2, 3}
	all := events(of(row{store(8, 0), store(8, 0), amo(8, 0, 0), store(8, 0), load(8, 0)}, row{load(8, 0), amo(8, 0, 0)}))
	all[1].Deps = api.Deps{Addr: l[:1], Data: l[:1], Way: l[:1]}
	all[2].Deps = api.Deps{Addr: l[:2], Data: l[1:2], Way: l[:0]}
	all[3].Deps = api.Deps{Addr: l[:3], Data: l[:3], Way: l[2:3]}
	all[4].Deps = api.Deps{Addr: l[3:], Way: l[:]}
	all[6].Deps = api.Deps{Addr: l[:1], Data: l[:0], Way: l[4:]}
	numbers := []int{-1, -1, -1, -1, -1, -1, -1, 0, 1, 2, 3, 4, 5, 6}
	c := may(t, api.Cand{Harts: [][]api.Event{all[:5], all[5:], all[:0]}, From: numbers[:7], Order: numbers[7:]})
	for _, c := range []api.Cand{c, {First: at(4, 1), Harts: c.Harts, From: c.From, Order: c.Order}} {
		for _, r := range [][2]uint64{{0, 8}, {8, 16}} {
			was := told(c)
			holdCandOwn(t, inter.Shared(c, r[0], r[1]))
			if told(c) != was {
				t.Fatalf("%s, was %s", told(c), was)
			}
		}
	}
}

func TestAnswersHangOnWhatIsGivenAlone(t *testing.T) {
	m, w := good(t)
	c := some()
	tellAll := func() string {
		got, err := inter.Do(m, w)
		turns, is := inter.Turns(m, got.Cand)
		return told(got) + told(err) + told(turns) + told(is) + told(inter.Shared(c, 8, 24)) + told(inter.Plain(c))
	}
	want := tellAll()
	d := dice(17)
	for range 50 {
		other := d.program(t)
		inter.Do(other, d.weave(len(other.Start)))
		inter.Do(api.Image{}, w)
		inter.Turns(other, c)
		inter.Shared(api.Cand{}, 0, 9)
		if got := tellAll(); got != want {
			t.Fatalf("%s, was %s", got, want)
		}
	}
}
