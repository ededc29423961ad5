package run_test

import (
	"slices"
	"testing"

	"fencepost/api"
	"fencepost/event"
	"fencepost/run"
)

// P8.4: what is a first part of what; and that an answer is new memory.

// isPart tells whether a trace is the first part of another one.
func isPart(part, whole api.Trace) bool {
	if len(part.Events) > len(whole.Events) || len(part.Outs) > len(whole.Outs) || len(part.Marks) > len(whole.Marks) {
		return false
	}
	first := whole
	first.Events, first.Outs, first.Marks = whole.Events[:len(part.Events)], whole.Outs[:len(part.Outs)], whole.Marks[:len(part.Marks)]
	first.Steps, first.End = part.Steps, part.End
	switch {
	case part.Steps == whole.Steps:
		return told(part) == told(whole)
	case part.Steps > whole.Steps:
		return false
	}
	// One that goes on did not end.
	return told(part) == told(first) && part.End.End == api.EndNone
}

func TestRunOfFewerStepsIsTheFirstPart(t *testing.T) {
	many(t, 11, 250, func(m api.Image, number int, p api.Picks) {
		whole := must(t, m, number, p)
		last := api.Trace{End: m.Start[number]}
		for steps := range p.Steps + 1 {
			fewer := p
			fewer.Steps = steps
			part := must(t, m, number, fewer)
			if part.Steps != min(steps, whole.Steps) || !isPart(part, whole) || !isPart(last, part) {
				t.Fatalf("%d steps: %s,\nof %d: %s", steps, told(part), p.Steps, told(whole))
			}
			if needs := run.Needs(m, number, fewer); steps <= whole.Steps && needs != 0 || steps > whole.Steps && needs != run.Needs(m, number, p) {
				t.Fatalf("%d of %d steps need %d", steps, whole.Steps, needs)
			}
			last = part
		}
	})
}

func TestRunByFewerPicksIsTheFirstPart(t *testing.T) {
	less := func(t *testing.T, m api.Image, number int, whole, part api.Trace, fewer api.Picks, needs, lack int) {
		t.Helper()
		if !isPart(part, whole) || needs != 0 && needs != lack {
			t.Fatalf("by %+v: %s, needs %d,\nwant a part of %s", fewer, told(part), needs, told(whole))
		}
		if part.Steps < whole.Steps && needs != lack {
			t.Fatalf("by %+v: %s, needs %d", fewer, told(part), needs)
		}
		// What it comes to is what so many steps come to.
		so := fewer
		so.Steps = part.Steps
		if again := must(t, m, number, so); told(again) != told(part) || run.Needs(m, number, so) != 0 {
			t.Fatalf("by %+v: %s, want %s", so, told(again), told(part))
		}
	}
	met := 0
	many(t, 12, 500, func(m api.Image, number int, p api.Picks) {
		whole := must(t, m, number, p)
		// Where it lacks no pick, what fewer picks lack is theirs.
		if run.Needs(m, number, p) != 0 {
			return
		}
		met++
		for loads := range len(p.Loads) {
			fewer := p
			fewer.Loads = p.Loads[:loads]
			less(t, m, number, whole, must(t, m, number, fewer), fewer, run.Needs(m, number, fewer), 1)
		}
		for wins := range len(p.Wins) {
			fewer := p
			fewer.Wins = p.Wins[:wins]
			less(t, m, number, whole, must(t, m, number, fewer), fewer, run.Needs(m, number, fewer), 2)
		}
	})
	if met < 500 {
		t.Errorf("%d runs lacked no pick alone", met)
	}
}

func TestRunByFewerOfAllPicks(t *testing.T) {
	many(t, 13, 400, func(m api.Image, number int, p api.Picks) {
		whole := must(t, m, number, p)
		for place := range 12 {
			fewer := api.Picks{Loads: p.Loads[:len(p.Loads)*place/12], Wins: p.Wins[:len(p.Wins)*(11-place)/12], Steps: p.Steps * (place + 1) / 12}
			if part := must(t, m, number, fewer); !isPart(part, whole) {
				t.Fatalf("by %+v: %s,\nwant a part of %s", fewer, told(part), told(whole))
			}
		}
	})
}

func TestPicksThatAreNotUsedDoNotMatter(t *testing.T) {
	used := 0
	many(t, 14, 600, func(m api.Image, number int, p api.Picks) {
		r := plain(m, number, p)
		want, needs := told(must(t, m, number, p)), run.Needs(m, number, p)
		used += r.loads + r.wins
		// Just those that are used.
		just := api.Picks{Loads: p.Loads[:r.loads], Wins: p.Wins[:r.wins], Steps: r.trace.Steps}
		if got := told(must(t, m, number, just)); got != want || run.Needs(m, number, just) != 0 {
			t.Fatalf("by %+v: %s, want %s", just, got, want)
		}
		just.Steps = p.Steps
		if got := told(must(t, m, number, just)); got != want {
			t.Fatalf("by %+v: %s, want %s", just, got, want)
		}
		// Others behind those that are used.
		for _, load := range []uint64{0, 7, 1 << 63} {
			other := api.Picks{Loads: slices.Clone(p.Loads), Wins: slices.Clone(p.Wins), Steps: p.Steps}
			for place := range other.Loads[r.loads:] {
				other.Loads[r.loads+place] += load
			}
			for place := range other.Wins[r.wins:] {
				other.Wins[r.wins+place] = !other.Wins[r.wins+place]
			}
			if needs != 1 {
				other.Loads = append(other.Loads, load, load)
			}
			if needs != 2 {
				other.Wins = append(other.Wins, true, false)
			}
			if got := told(must(t, m, number, other)); got != want || run.Needs(m, number, other) != needs {
				t.Fatalf("by %+v: %s, want %s", other, got, want)
			}
		}
	})
	if used < 2000 {
		t.Errorf("%d picks were used alone", used)
	}
}

func TestEventsMakeARow(t *testing.T) {
	met := 0
	many(t, 15, 1500, func(m api.Image, number int, p api.Picks) {
		got := must(t, m, number, p)
		for _, e := range got.Events {
			if e.Kind == api.EvSC {
				met++
			}
		}
		if err := event.Row(number, got.Events); err != api.OK {
			t.Fatalf("no row: %s", told(got))
		}
		for events := range len(got.Events) {
			if err := event.Row(number, run.Cut(got, events).Events); err != api.OK {
				t.Fatalf("no row: %s, cut to %d", told(got), events)
			}
		}
	})
	if met < 100 {
		t.Errorf("%d sc won alone", met)
	}
}

func TestRunHangsOnWhatItIsGivenAlone(t *testing.T) {
	// Other harts, and words that are not come to, do not matter.
	m := alone(t, regs{6: 8}, "ld x5, 0(x6)", "addi x0, x5, 1", "ebreak")
	p := api.Picks{Loads: []uint64{7}, Steps: 9}
	want := told(must(t, m, 0, p))
	m.Words = append(m.Words, words(t, "ecall", ".00000000")...)
	m.Start = append(m.Start, at(4, regs{5: 1}), at(99, nil))
	for range 3 {
		must(t, m, 1, p)
		if got := told(must(t, m, 0, p)); got != want {
			t.Errorf("%s, want %s", got, want)
		}
	}
}

// lists answers all lists of numbers of a trace's events.
func lists(t *api.Trace) []*[]int {
	var l []*[]int
	for place := range t.Events {
		d := &t.Events[place].Deps
		l = append(l, &d.Addr, &d.Data, &d.Way)
	}
	return l
}

// spoil writes over all that a trace has, its lists' room to spare too.
func spoil(t *api.Trace) {
	for number, l := range lists(t) {
		room := (*l)[:cap(*l)]
		for place := range room {
			room[place] = -1000 - number
		}
	}
	events, outs, marks := t.Events[:cap(t.Events)], t.Outs[:cap(t.Outs)], t.Marks[:cap(t.Marks)]
	for place := range events {
		events[place] = api.Event{Kind: 77, At: -5}
	}
	for place := range outs {
		outs[place] = 777
	}
	for place := range marks {
		marks[place] = api.Mark{Kind: 77, At: -7}
	}
}

// holdOwn holds the lists of a trace to share no memory, their room to spare neither. It writes over that room.
func holdOwn(t *testing.T, trace *api.Trace) {
	t.Helper()
	was := told(*trace)
	var all [][]int
	for number, l := range lists(trace) {
		room := (*l)[len(*l):cap(*l)]
		for place := range room {
			room[place] = -1000 - number
		}
		all = append(all, *l)
	}
	for number, l := range all {
		for _, n := range l[len(l):cap(l)] {
			if n != -1000-number {
				t.Errorf("list %d shares its room to spare: %s", number, was)
				return
			}
		}
	}
	// Each number is changed, and changed back, while nothing else changes.
	for number, l := range all {
		for place := range l {
			l[place] += 1 << 40
			for other, o := range all {
				if other != number && slices.ContainsFunc(o, func(n int) bool { return n >= 1<<40 }) {
					t.Errorf("lists %d and %d share memory: %s", number, other, was)
					return
				}
			}
			l[place] -= 1 << 40
		}
	}
	if told(*trace) != was {
		t.Errorf("lists share memory: %s, was %s", told(*trace), was)
	}
}

func TestRunGivesNewMemory(t *testing.T) {
	many(t, 16, 300, func(m api.Image, number int, p api.Picks) {
		roomy := func(l []uint64) []uint64 { return append(slices.Clone(l), 5, 6, 7)[:len(l)] }
		p.Loads, p.Wins = roomy(p.Loads), append(slices.Clone(p.Wins), true, false, true)[:len(p.Wins)]
		m.Words = append(slices.Clone(m.Words), words(t, "ebreak", "ecall")...)[:len(m.Words)]
		m.Start = append(slices.Clone(m.Start), api.Hart{PC: 3}, api.Hart{End: 1})[:len(m.Start)]
		loads, wins := slices.Clone(p.Loads[:cap(p.Loads)]), slices.Clone(p.Wins[:cap(p.Wins)])
		code, start := slices.Clone(m.Words[:cap(m.Words)]), slices.Clone(m.Start[:cap(m.Start)])
		stays := func() bool {
			return slices.Equal(loads, p.Loads[:cap(p.Loads)]) && slices.Equal(wins, p.Wins[:cap(p.Wins)]) &&
				slices.Equal(code, m.Words[:cap(m.Words)]) && slices.Equal(start, m.Start[:cap(m.Start)])
		}
		got := must(t, m, number, p)
		run.Needs(m, number, p)
		want := told(got)
		if !stays() {
			t.Fatalf("what was handed in was changed: %+v, %+v", m, p)
		}
		holdOwn(t, &got)
		spoil(&got)
		if !stays() {
			t.Fatalf("the answer shares memory with what was handed in: %+v, %+v", m, p)
		}
		got = must(t, m, number, p)
		if told(got) != want {
			t.Fatalf("%s, want %s", told(got), want)
		}
		// What is handed in may be written over behind the call.
		for place := range p.Loads {
			p.Loads[place]++
		}
		clear(p.Wins)
		clear(m.Words)
		clear(m.Start)
		if told(got) != want {
			t.Fatalf("the answer shares memory with what was handed in: %s, want %s", told(got), want)
		}
	})
}
