package run_test

import (
	"math"
	"testing"

	"fencepost/api"
	"fencepost/run"
)

// P8.2: Run, Needs

// refused holds a run to be refused.
func refused(t *testing.T, m api.Image, number int, p api.Picks) {
	t.Helper()
	if got, err := run.Run(m, number, p); err != api.ErrArg || told(got) != told(api.Trace{}) {
		t.Errorf("Run of hart %d of %d, %d steps: %s, %d", number, len(m.Start), p.Steps, told(got), err)
	}
	if n := run.Needs(m, number, p); n != 0 {
		t.Errorf("Needs of hart %d of %d, %d steps: %d", number, len(m.Start), p.Steps, n)
	}
}

func TestRunOfTheChaptersExamples(t *testing.T) {
	m := alone(t, regs{6: 8, 17: 0, 10: 3}, "ld x5, 0(x6)", "addi x0, x5, 1", "ecall")
	end := at(8, regs{5: 7, 6: 8, 10: 3})
	end.End, end.Code = 1, 3
	hold(t, m, 0, api.Picks{Loads: []uint64{7}, Steps: 9}, api.Trace{
		Events: []api.Event{{Kind: api.EvLoad, Addr: 8, Load: 7}},
		Marks:  []api.Mark{{Kind: 1, Value: 7, At: 1}},
		End:    end,
		Steps:  3,
	}, 0)
	hold(t, m, 0, api.Picks{Steps: 9}, api.Trace{End: m.Start[0]}, 1)
}

func TestRunRefuses(t *testing.T) {
	// Needs would tell of a load, were it not refused.
	good := alone(t, regs{6: 8}, "ld x5, 0(x6)", "sc.d x5, x5, (x6)")
	p := api.Picks{Steps: 5}
	hold(t, good, 0, p, api.Trace{End: good.Start[0]}, 1)
	for _, number := range []int{-1, 1, 2, 7, 8, 9, -8, 1 << 32, math.MinInt, math.MaxInt} {
		refused(t, good, number, p)
	}
	for _, steps := range []int{-1, -2, api.MaxSteps + 1, api.MaxSteps + 2, 1 << 17, 1 << 32, math.MinInt, math.MaxInt} {
		p.Steps = steps
		refused(t, good, 0, p)
	}
	p.Steps = 5
	for harts := 1; harts <= api.MaxHarts; harts++ {
		m := good
		m.Start = make([]api.Hart, harts)
		for number := range harts {
			m.Start[number] = at(0, regs{6: 8 * uint64(number)})
			hold(t, m, number, p, api.Trace{End: m.Start[number]}, 1)
		}
		for _, number := range []int{-1, harts, harts + 1} {
			refused(t, m, number, p)
			// One in the room to spare is none.
			less := m
			less.Start = m.Start[:harts-1]
			refused(t, less, harts-1, p)
		}
	}
	for _, m := range []api.Image{
		{},
		{Words: good.Words},
		{Base: 2, Words: good.Words, Start: good.Start},
		{Base: 1 << 31, Words: good.Words, Start: good.Start},
		{Words: make([]uint32, api.MaxCode+1), Start: good.Start},
		{Words: good.Words, Start: make([]api.Hart, api.MaxHarts+1)},
		{Words: good.Words, Start: []api.Hart{good.Start[0], {End: 1}}},
		{Words: good.Words, Start: []api.Hart{good.Start[0], at(0, regs{0: 1})}},
	} {
		refused(t, m, 0, p)
		refused(t, m, -1, p)
		refused(t, m, 0, api.Picks{Steps: -1})
	}
}

func TestRunOfNoSteps(t *testing.T) {
	for _, lines := range [][]string{nil, {"ecall"}, {"ld x5, 0(x6)"}, {"sc.d x5, x5, (x6)"}, {".00000000"}, {"addi x0, x5, 1"}} {
		m := alone(t, regs{5: 9, 6: 8}, lines...)
		hold(t, m, 0, api.Picks{}, api.Trace{End: m.Start[0]}, 0)
		hold(t, m, 0, api.Picks{Loads: []uint64{1}, Wins: []bool{true}}, api.Trace{End: m.Start[0]}, 0)
	}
}

func TestRunOfMaxSteps(t *testing.T) {
	m := alone(t, nil, "addi x5, x5, 1", "jal x0, -4")
	for _, steps := range []int{1, 2, 3, 999, api.MaxSteps - 1, api.MaxSteps} {
		end := at(uint64(steps%2*4), regs{5: uint64(steps+1) / 2})
		hold(t, m, 0, api.Picks{Steps: steps}, api.Trace{End: end, Steps: steps}, 0)
	}
	// The steps are over ahead of a load, or of an end.
	m = alone(t, regs{6: 8}, "addi x5, x5, 1", "ld x7, 0(x6)", ".00000000")
	hold(t, m, 0, api.Picks{Steps: 1}, api.Trace{End: at(4, regs{5: 1, 6: 8}), Steps: 1}, 0)
	hold(t, m, 0, api.Picks{Steps: 2}, api.Trace{End: at(4, regs{5: 1, 6: 8}), Steps: 1}, 1)
	events := []api.Event{{Kind: api.EvLoad, Addr: 8, Load: 3}}
	end := at(8, regs{5: 1, 6: 8, 7: 3})
	hold(t, m, 0, api.Picks{Loads: []uint64{3}, Steps: 2}, api.Trace{Events: events, End: end, Steps: 2}, 0)
	end.End = api.EndFetch
	hold(t, m, 0, api.Picks{Loads: []uint64{3}, Steps: 3}, api.Trace{Events: events, End: end, Steps: 3}, 0)
	hold(t, m, 0, api.Picks{Loads: []uint64{3}, Steps: api.MaxSteps}, api.Trace{Events: events, End: end, Steps: 3}, 0)
}

func TestRunOfManyEvents(t *testing.T) {
	// As many events as steps: more than a candidate may have.
	m := api.Image{Base: 4096, Start: []api.Hart{at(4096, regs{5: 1, 6: 8})}}
	m.Words = make([]uint32, api.MaxCode)
	store := words(t, "sd x5, 0(x6)")[0]
	for place := range m.Words {
		m.Words[place] = store
	}
	got := must(t, m, 0, api.Picks{Steps: api.MaxSteps})
	if len(got.Events) != api.MaxSteps || got.Steps != api.MaxSteps || got.End.PC != 4096+4*api.MaxCode || got.End.End != 0 {
		t.Fatalf("%d events, %d steps, %+v", len(got.Events), got.Steps, got.End)
	}
	for place, e := range got.Events {
		if e.At != place || e.Kind != api.EvStore || e.Addr != 8 || e.Store != 1 {
			t.Fatalf("event %d: %+v", place, e)
		}
	}
}

func TestRunEnds(t *testing.T) {
	halt := func(h api.Hart, end int, code uint64) api.Hart {
		h.End, h.Code = end, code
		return h
	}
	for _, c := range []struct {
		line string
		l    regs
		end  int
		code uint64
	}{
		{"ecall", regs{10: 9}, api.EndHalt, 9},
		{"ecall", nil, api.EndHalt, 0},
		{"ecall", regs{10: math.MaxUint64}, api.EndHalt, math.MaxUint64},
		{"ecall", regs{10: 9, 17: 2}, api.EndCall, 0},
		{"ebreak", regs{10: 9}, api.EndBreak, 0},
		{"lw x1, 0(x6)", regs{6: 8}, api.EndSize, 0},
		{"sw x1, 0(x6)", regs{6: 8}, api.EndSize, 0},
		{"lr.w x1, (x6)", regs{6: 8}, api.EndSize, 0},
		{"sc.w x1, x2, (x6)", regs{6: 8}, api.EndSize, 0},
		{"amoadd.w x1, x2, (x6)", regs{6: 8}, api.EndSize, 0},
		{"ld x1, 4(x6)", regs{6: 8}, api.EndAlign, 0},
		{"sd x1, 0(x6)", regs{6: 9}, api.EndAlign, 0},
		{"lr.d x1, (x6)", regs{6: 12}, api.EndAlign, 0},
		{"sc.d x1, x2, (x6)", regs{6: 15}, api.EndAlign, 0},
		{"amoadd.d x1, x2, (x6)", regs{6: 1}, api.EndAlign, 0},
		{"jal x1, 2", nil, api.EndFetch, 0},
		{"jalr x1, 2(x6)", regs{6: 8}, api.EndFetch, 0},
		{"beq x1, x1, 6", nil, api.EndFetch, 0},
		{".00000000", nil, api.EndFetch, 0},
		{".0000100f", nil, api.EndFetch, 0},
		{".ffffffff", nil, api.EndFetch, 0},
	} {
		// With picks and without: one that ends takes none.
		for _, p := range []api.Picks{{}, {Loads: []uint64{5}, Wins: []bool{true}}} {
			m := alone(t, c.l, c.line, "ecall")
			for _, steps := range []int{1, 2, 9} {
				p.Steps = steps
				hold(t, m, 0, p, api.Trace{End: halt(at(0, c.l), c.end, c.code), Steps: 1}, 0)
			}
			// Behind two other steps.
			m = alone(t, c.l, "addi x3, x0, 4", "add x3, x3, x3", c.line, "ecall")
			end := at(8, c.l)
			end.X[3] = 8
			p.Steps = 2
			hold(t, m, 0, p, api.Trace{End: end, Steps: 2}, 0)
			for _, steps := range []int{3, 4, 9} {
				p.Steps = steps
				hold(t, m, 0, p, api.Trace{End: halt(end, c.end, c.code), Steps: 3}, 0)
			}
		}
	}
}

func TestRunFromAndToWhereNothingIsFetched(t *testing.T) {
	fetchless := func(pc uint64, l regs) api.Hart {
		h := at(pc, l)
		h.End = api.EndFetch
		return h
	}
	// From there.
	for _, pc := range []uint64{0, 4092, 4104, 4097, 4098, 1 << 63, math.MaxUint64, math.MaxUint64 - 3} {
		m := api.Image{Base: 4096, Words: words(t, "ecall", "ecall"), Start: []api.Hart{at(pc, regs{3: 1})}}
		hold(t, m, 0, api.Picks{}, api.Trace{End: m.Start[0]}, 0)
		hold(t, m, 0, api.Picks{Steps: 1}, api.Trace{End: fetchless(pc, regs{3: 1}), Steps: 1}, 0)
		hold(t, m, 0, api.Picks{Steps: 9}, api.Trace{End: fetchless(pc, regs{3: 1}), Steps: 1}, 0)
	}
	// Off the last word, and by a jump.
	m := alone(t, nil, "addi x3, x0, 1")
	hold(t, m, 0, api.Picks{Steps: 1}, api.Trace{End: at(4, regs{3: 1}), Steps: 1}, 0)
	hold(t, m, 0, api.Picks{Steps: 9}, api.Trace{End: fetchless(4, regs{3: 1}), Steps: 2}, 0)
	m = alone(t, nil, "jal x1, -4")
	hold(t, m, 0, api.Picks{Steps: 1}, api.Trace{End: at(math.MaxUint64-3, regs{1: 4}), Steps: 1}, 0)
	hold(t, m, 0, api.Picks{Steps: 9}, api.Trace{End: fetchless(math.MaxUint64-3, regs{1: 4}), Steps: 2}, 0)
	// No words at all.
	m = api.Image{Start: []api.Hart{{}}}
	hold(t, m, 0, api.Picks{Steps: 9}, api.Trace{End: fetchless(0, nil), Steps: 1}, 0)
}

func TestRunOfWhatLoads(t *testing.T) {
	for _, c := range []struct {
		line string
		want api.Event
	}{
		{"ld x5, 16(x6)", api.Event{Kind: api.EvLoad, Addr: 24, Load: 7}},
		{"ld x5, -16(x6)", api.Event{Kind: api.EvLoad, Addr: math.MaxUint64 - 7, Load: 7}},
		{"lr.d x5, (x6)", api.Event{Kind: api.EvLR, Addr: 8, Load: 7}},
		{"lr.d.aq x5, (x6)", api.Event{Kind: api.EvLR, Addr: 8, Load: 7, Aq: true}},
		{"lr.d.aqrl x5, (x6)", api.Event{Kind: api.EvLR, Addr: 8, Load: 7, Aq: true, Rl: true}},
		{"amoadd.d x5, x7, (x6)", api.Event{Kind: api.EvAmo, Addr: 8, Load: 7, Store: 12}},
		{"amoswap.d.rl x5, x7, (x6)", api.Event{Kind: api.EvAmo, Addr: 8, Load: 7, Store: 5, Rl: true}},
		{"amomax.d x5, x7, (x6)", api.Event{Kind: api.EvAmo, Addr: 8, Load: 7, Store: 7}},
	} {
		m := alone(t, regs{5: 1, 6: 8, 7: 5}, c.line, "ebreak")
		then := api.Trace{Events: []api.Event{c.want}, End: at(4, regs{5: 7, 6: 8, 7: 5}), Steps: 1}
		hold(t, m, 0, api.Picks{Loads: []uint64{7}, Steps: 1}, then, 0)
		hold(t, m, 0, api.Picks{Loads: []uint64{7, 8, 9}, Wins: []bool{true}, Steps: 1}, then, 0)
		// Picks of an sc are none of a load.
		for _, p := range []api.Picks{{Steps: 1}, {Steps: 9}, {Wins: []bool{true, false}, Steps: 9}, {Loads: []uint64{7, 8}[:0], Steps: 9}} {
			hold(t, m, 0, p, api.Trace{End: m.Start[0]}, 1)
		}
		// The second of two.
		m = alone(t, regs{6: 8, 7: 5}, "ld x9, 0(x6)", c.line)
		first := api.Event{Kind: api.EvLoad, Addr: 8, Load: 3}
		hold(t, m, 0, api.Picks{Loads: []uint64{3}, Steps: 2}, api.Trace{Events: []api.Event{first}, End: at(4, regs{6: 8, 7: 5, 9: 3}), Steps: 1}, 1)
		second := c.want
		second.At = 1
		hold(t, m, 0, api.Picks{Loads: []uint64{3, 7}, Steps: 2}, api.Trace{
			Events: []api.Event{first, second}, End: at(8, regs{5: 7, 6: 8, 7: 5, 9: 3}), Steps: 2,
		}, 0)
	}
}

func TestRunOfStoresFencesAndOuts(t *testing.T) {
	m := api.Image{Base: 4096, Words: words(t,
		"sd x5, 8(x6)", "fence rw, w", "ecall", "fence 0, 0", "addi x10, x10, 1", "fence iorw, iorw", "ecall", "sd x0, 0(x6)",
	), Start: []api.Hart{{}, {}, at(4096, regs{5: 11, 6: 16, 10: 5, 17: 1})}}
	want := api.Trace{
		Events: []api.Event{
			{Hart: 2, At: 0, Kind: api.EvStore, Addr: 24, Store: 11},
			{Hart: 2, At: 1, Kind: api.EvFence, Pred: 3, Succ: 1},
			{Hart: 2, At: 2, Kind: api.EvFence},
			{Hart: 2, At: 3, Kind: api.EvFence, Pred: 15, Succ: 15},
			{Hart: 2, At: 4, Kind: api.EvStore, Addr: 16},
		},
		Outs:  []uint64{5, 6},
		End:   at(4096+32, regs{5: 11, 6: 16, 10: 6, 17: 1}),
		Steps: 8,
	}
	hold(t, m, 2, api.Picks{Steps: 8}, want, 0)
	want.End.End, want.Steps = api.EndFetch, 9
	hold(t, m, 2, api.Picks{Steps: 9}, want, 0)
	hold(t, m, 2, api.Picks{Loads: []uint64{1}, Wins: []bool{true}, Steps: 99}, want, 0)
}

func TestRunOfMarks(t *testing.T) {
	m := alone(t, regs{5: 9, 6: 8},
		"addi x0, x5, 5", "addi x0, x0, 1", // ahead of all events
		"sd x5, 0(x6)", "addi x0, x6, 2047", "addi x0, x6, 2047", // behind one
		"fence r, r", "sd x5, 0(x6)", "addi x0, x5, 2", // behind three
		"sc.d x7, x5, (x6)", "addi x0, x7, 3", // an sc that is lost is no event
		"addi x0, x5, 0", "addi x0, x5, -1", "xori x0, x5, 3", "addi x1, x5, 3") // none of these is one
	got := must(t, m, 0, api.Picks{Wins: []bool{true}, Steps: 14})
	mark := func(kind int, value uint64, at int) api.Mark { return api.Mark{Kind: kind, Value: value, At: at} }
	want := []api.Mark{mark(5, 9, 0), mark(1, 0, 0), mark(2047, 8, 1), mark(2047, 8, 1), mark(2, 9, 3), mark(3, 1, 3)}
	if told(api.Trace{Marks: got.Marks}) != told(api.Trace{Marks: want}) || got.Steps != 14 || len(got.Events) != 3 {
		t.Errorf("%+v, %d steps, want %+v", got, got.Steps, want)
	}
	// A mark changes no register, and takes no pick.
	if got.End != at(56, regs{1: 12, 5: 9, 6: 8, 7: 1}) {
		t.Errorf("%+v", got.End)
	}
}

func TestRunGivesEachHartItsOwn(t *testing.T) {
	m := api.Image{Base: 8, Words: words(t, "addi x0, x3, 1", "sd x3, 0(x0)", "ebreak")}
	for number := range api.MaxHarts {
		m.Start = append(m.Start, at(8+4*uint64(number%2), regs{3: uint64(number)}))
	}
	for number := range api.MaxHarts {
		want := api.Trace{Events: []api.Event{{Hart: number, Kind: api.EvStore, Store: uint64(number)}}, End: at(16, regs{3: uint64(number)})}
		want.End.End, want.Steps = api.EndBreak, 3
		if number%2 == 0 {
			want.Marks = []api.Mark{{Kind: 1, Value: uint64(number)}}
		} else {
			want.Steps = 2
		}
		hold(t, m, number, api.Picks{Steps: 9}, want, 0)
	}
}

func TestRunOfMany(t *testing.T) {
	many(t, 2, 3000, func(m api.Image, number int, p api.Picks) {
		want := plain(m, number, p)
		hold(t, m, number, p, want.trace, want.needs)
	})
}
