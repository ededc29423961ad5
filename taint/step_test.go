package taint_test

import (
	"math"
	"slices"
	"testing"

	"fencepost/api"
	"fencepost/insn"
	"fencepost/taint"
)

// P6.2

// some answers sets with event 3 on register 5, events 4 and 7 on register 6, others on the registers that an ecall reads, and events 1, 2 on the way.
func some() sets {
	var s sets
	s.x[1], s.x[5], s.x[6], s.x[10], s.x[17] = of(0, 6), of(3), of(4, 7), of(8), of(9)
	s.way = of(1, 2)
	return s
}

// holdStep tells whether an instruction of this text hangs on these, and changes just what change tells.
func holdStep(t *testing.T, text string, event int, want hangs, change func(*sets)) {
	t.Helper()
	then := some()
	change(&then)
	want.way = some().way
	after, deps, err := taint.Step(some().taint(), read(t, text), event)
	if err != api.OK || !want.hold(deps) || !then.hold(after) {
		t.Errorf("%s, event %d: %v, %v, %d, want %v, %v", text, event, after, deps, err, then.taint(), want)
	}
}

// register7 answers what makes register 7 hang on just these.
func register7(on set) func(*sets) {
	return func(s *sets) { s.x[7] = on }
}

func nothing(*sets) {}

func TestLoads(t *testing.T) {
	for _, name := range []string{"lb", "lh", "lw", "ld", "lbu", "lhu", "lwu"} {
		holdStep(t, name+" x7, 8(x6)", 20, hangs{addr: of(4, 7)}, register7(of(20)))
		holdStep(t, name+" x7, 8(x6)", -1, hangs{addr: of(4, 7)}, register7(0))
		holdStep(t, name+" x7, 8(x6)", 0, hangs{addr: of(4, 7)}, register7(of(0)))
		holdStep(t, name+" x7, 8(x0)", 20, hangs{}, register7(of(20)))
		holdStep(t, name+" x6, 8(x6)", 20, hangs{addr: of(4, 7)}, func(s *sets) { s.x[6] = of(20) })
		holdStep(t, name+" x6, 8(x6)", -1, hangs{addr: of(4, 7)}, func(s *sets) { s.x[6] = 0 })
		holdStep(t, name+" x0, 8(x6)", 20, hangs{addr: of(4, 7)}, nothing)
	}
}

func TestLRs(t *testing.T) {
	for _, name := range []string{"lr.w", "lr.d", "lr.d.aq", "lr.w.rl", "lr.d.aqrl"} {
		holdStep(t, name+" x7, (x6)", 20, hangs{addr: of(4, 7)}, register7(of(20)))
		holdStep(t, name+" x7, (x6)", -1, hangs{addr: of(4, 7)}, register7(0))
		holdStep(t, name+" x6, (x6)", 20, hangs{addr: of(4, 7)}, func(s *sets) { s.x[6] = of(20) })
		holdStep(t, name+" x0, (x6)", 20, hangs{addr: of(4, 7)}, nothing)
		holdStep(t, name+" x7, (x0)", 20, hangs{}, register7(of(20)))
	}
}

func TestSCsAndAmos(t *testing.T) {
	for _, name := range []string{
		"sc.w", "sc.d", "sc.d.aq", "sc.d.rl", "sc.w.aqrl",
		"amoswap.w", "amoadd.w", "amoxor.w", "amoand.w", "amoor.w", "amomin.w", "amomax.w", "amominu.w", "amomaxu.w",
		"amoswap.d", "amoadd.d", "amoxor.d", "amoand.d", "amoor.d", "amomin.d", "amomax.d", "amominu.d", "amomaxu.d", "amoadd.d.aqrl",
	} {
		both := hangs{addr: of(3), data: of(4, 7)}
		holdStep(t, name+" x7, x6, (x5)", 20, both, register7(of(20)))
		holdStep(t, name+" x7, x6, (x5)", -1, both, register7(0))
		holdStep(t, name+" x5, x6, (x5)", 20, both, func(s *sets) { s.x[5] = of(20) })
		holdStep(t, name+" x6, x6, (x5)", 20, both, func(s *sets) { s.x[6] = of(20) })
		holdStep(t, name+" x6, x6, (x5)", -1, both, func(s *sets) { s.x[6] = 0 })
		holdStep(t, name+" x0, x6, (x5)", 20, both, nothing)
		holdStep(t, name+" x7, x5, (x5)", 20, hangs{addr: of(3), data: of(3)}, register7(of(20)))
		holdStep(t, name+" x7, x0, (x5)", 20, hangs{addr: of(3)}, register7(of(20)))
		holdStep(t, name+" x7, x6, (x0)", 20, hangs{data: of(4, 7)}, register7(of(20)))
	}
}

func TestStores(t *testing.T) {
	for _, name := range []string{"sb", "sh", "sw", "sd"} {
		for _, event := range []int{-1, 0, 20} {
			holdStep(t, name+" x6, 8(x5)", event, hangs{addr: of(3), data: of(4, 7)}, nothing)
			holdStep(t, name+" x5, 8(x6)", event, hangs{addr: of(4, 7), data: of(3)}, nothing)
			holdStep(t, name+" x5, 8(x5)", event, hangs{addr: of(3), data: of(3)}, nothing)
			holdStep(t, name+" x0, 8(x5)", event, hangs{addr: of(3)}, nothing)
			holdStep(t, name+" x6, 8(x0)", event, hangs{data: of(4, 7)}, nothing)
		}
	}
}

func TestBranchesMakeTheWayGrow(t *testing.T) {
	for _, name := range []string{"beq", "bne", "blt", "bge", "bltu", "bgeu"} {
		for _, event := range []int{-1, 20} {
			holdStep(t, name+" x5, x6, 8", event, hangs{}, func(s *sets) { s.way = of(1, 2, 3, 4, 7) })
			holdStep(t, name+" x5, x0, 8", event, hangs{}, func(s *sets) { s.way = of(1, 2, 3) })
			holdStep(t, name+" x0, x6, -8", event, hangs{}, func(s *sets) { s.way = of(1, 2, 4, 7) })
			holdStep(t, name+" x1, x1, 2", event, hangs{}, func(s *sets) { s.way = of(0, 1, 2, 6) })
			holdStep(t, name+" x0, x0, 8", event, hangs{}, nothing)
			holdStep(t, name+" x9, x9, 8", event, hangs{}, nothing)
		}
	}
}

func TestJumps(t *testing.T) {
	for _, event := range []int{-1, 20} {
		holdStep(t, "jal x6, 8", event, hangs{}, func(s *sets) { s.x[6] = 0 })
		holdStep(t, "jal x0, 8", event, hangs{}, nothing)
		holdStep(t, "jalr x6, 8(x5)", event, hangs{}, func(s *sets) { s.x[6], s.way = 0, of(1, 2, 3) })
		holdStep(t, "jalr x6, 8(x6)", event, hangs{}, func(s *sets) { s.x[6], s.way = 0, of(1, 2, 4, 7) })
		holdStep(t, "jalr x0, 0(x1)", event, hangs{}, func(s *sets) { s.way = of(0, 1, 2, 6) })
		holdStep(t, "jalr x6, 8(x0)", event, hangs{}, func(s *sets) { s.x[6] = 0 })
	}
}

func TestNumbersHangOnNothing(t *testing.T) {
	for _, event := range []int{-1, 20} {
		for _, name := range []string{"lui", "auipc"} {
			holdStep(t, name+" x6, 1", event, hangs{}, func(s *sets) { s.x[6] = 0 })
			holdStep(t, name+" x9, 1", event, hangs{}, nothing)
			holdStep(t, name+" x0, 1", event, hangs{}, nothing)
		}
		holdStep(t, "addi x6, x0, 1", event, hangs{}, func(s *sets) { s.x[6] = 0 })
		holdStep(t, "add x6, x0, x0", event, hangs{}, func(s *sets) { s.x[6] = 0 })
	}
}

func TestOpsOfRegisters(t *testing.T) {
	for op := api.RvAdd; op <= api.RvRemuw; op++ {
		name := insn.Name(op)
		// No such op makes an event: what is told of one doesn't matter.
		for _, event := range []int{-1, 20} {
			holdStep(t, name+" x7, x5, x6", event, hangs{}, register7(of(3, 4, 7)))
			holdStep(t, name+" x7, x6, x5", event, hangs{}, register7(of(3, 4, 7)))
			holdStep(t, name+" x7, x5, x5", event, hangs{}, register7(of(3)))
			holdStep(t, name+" x7, x5, x0", event, hangs{}, register7(of(3)))
			holdStep(t, name+" x7, x0, x6", event, hangs{}, register7(of(4, 7)))
			holdStep(t, name+" x5, x5, x6", event, hangs{}, func(s *sets) { s.x[5] = of(3, 4, 7) })
			holdStep(t, name+" x6, x5, x6", event, hangs{}, func(s *sets) { s.x[6] = of(3, 4, 7) })
			holdStep(t, name+" x6, x9, x5", event, hangs{}, func(s *sets) { s.x[6] = of(3) })
			holdStep(t, name+" x6, x6, x6", event, hangs{}, nothing)
			holdStep(t, name+" x0, x5, x6", event, hangs{}, nothing)
		}
	}
}

func TestOpsOfNumbers(t *testing.T) {
	for _, name := range []string{"addi", "slti", "sltiu", "xori", "ori", "andi", "slli", "srli", "srai", "addiw", "slliw", "srliw", "sraiw"} {
		for _, event := range []int{-1, 20} {
			holdStep(t, name+" x7, x6, 5", event, hangs{}, register7(of(4, 7)))
			holdStep(t, name+" x5, x6, 0", event, hangs{}, func(s *sets) { s.x[5] = of(4, 7) })
			holdStep(t, name+" x6, x6, 1", event, hangs{}, nothing)
			holdStep(t, name+" x6, x0, 1", event, hangs{}, func(s *sets) { s.x[6] = 0 })
			holdStep(t, name+" x0, x6, 1", event, hangs{}, nothing)
		}
	}
}

func TestWhatWritesNothing(t *testing.T) {
	for _, text := range []string{"ecall", "ebreak", "fence rw, rw", "fence 0, 0", "fence iorw, iorw", "fence r, w"} {
		for _, event := range []int{-1, 0, 20} {
			holdStep(t, text, event, hangs{}, nothing)
		}
	}
}

func TestXorOfTheSameHangsStill(t *testing.T) {
	// By syntax, whatever the numbers are.
	holdStep(t, "xor x7, x6, x6", -1, hangs{}, register7(of(4, 7)))
	holdStep(t, "andi x7, x6, 0", -1, hangs{}, register7(of(4, 7)))
	holdStep(t, "sub x5, x5, x5", -1, hangs{}, nothing)
}

func TestEventsHaveNoGreatest(t *testing.T) {
	for _, event := range []int{0, 1, 63, 64, 4095, 4096, 1 << 31, 1 << 32, math.MaxInt} {
		before := some().taint()
		before.X[5] = []int{2, 1 << 40}
		after, deps, err := taint.Step(before, read(t, "amoadd.d x7, x6, (x5)"), event)
		want := some().taint()
		want.X[5], want.X[7] = before.X[5], []int{event}
		if err != api.OK || !taint.Same(after, want) || !slices.Equal(deps.Addr, before.X[5]) {
			t.Errorf("event %d: %v, %v, %d", event, after, deps, err)
		}
	}
}

func TestStepAsTheChapterTells(t *testing.T) {
	for s, m := range all() {
		want, on := plain(s, m.insn, m.event)
		got, deps, err := taint.Step(s.taint(), m.insn, m.event)
		if err != api.OK || !want.hold(got) || !on.hold(deps) {
			t.Fatalf("%s, event %d, of %v = %v, %v, %d, want %v, %v", tell(m.insn), m.event, s, got, deps, err, want.taint(), on)
		}
		if taint.Check(got) != api.OK {
			t.Fatalf("%s, event %d, of %v = %v, which may not be", tell(m.insn), m.event, s, got)
		}
	}
}

// right answers an instruction of each kind that may be.
func right(t *testing.T) []api.Insn {
	var l []api.Insn
	for _, text := range []string{
		"addi x1, x1, 1", "addi x0, x0, 0", "lui x1, 1", "auipc x1, 1", "jal x1, 8", "jalr x1, 0(x1)", "beq x1, x1, 2", "add x1, x1, x1", "ld x1, 8(x0)", "lb x1, 1(x0)",
		"sd x1, 8(x0)", "lr.d x1, (x0)", "sc.d x1, x1, (x0)", "amoadd.w x1, x1, (x0)", "fence rw, rw", "ecall", "ebreak",
	} {
		l = append(l, read(t, text))
	}
	return l
}

// wrong answers instructions that may not be.
func wrong(t *testing.T) []api.Insn {
	l := []api.Insn{
		{}, {Op: -1}, {Op: 88}, {Op: math.MinInt}, {Op: math.MaxInt}, {Op: api.RvAddi, Rd: 32}, {Op: api.RvAddi, Rs1: -1}, {Op: api.RvAdd, Rs2: 32}, {Op: api.RvAdd, Rs1: math.MaxInt},
		{Op: api.RvAddi, Imm: 2048}, {Op: api.RvAddi, Rs2: 1}, {Op: api.RvLd, Imm: 4096}, {Op: api.RvLd, Rs1: 32}, {Op: api.RvLd, Rs2: 1}, {Op: api.RvSd, Rd: 1}, {Op: api.RvSd, Rs2: -1}, {Op: api.RvBeq, Imm: 3}, {Op: api.RvBeq, Rs1: 32},
		{Op: api.RvJal, Imm: 1}, {Op: api.RvJal, Rs1: 1}, {Op: api.RvJalr, Rs1: 40}, {Op: api.RvSlliw, Imm: 32}, {Op: api.RvLui, Imm: 1 << 19}, {Op: api.RvFence, Pred: 16}, {Op: api.RvFence, Succ: -1},
		{Op: api.RvEcall, Rd: 1}, {Op: api.RvEbreak, Imm: 1}, {Op: api.RvLrD, Rs2: 1}, {Op: api.RvLd, Aq: true}, {Op: api.RvScD, Imm: 8}, {Op: api.RvAmoaddD, Rs2: 32},
	}
	for _, i := range l {
		if insn.Check(i) == api.OK {
			t.Fatalf("%s may be", tell(i))
		}
	}
	return l
}

// holdRefused tells whether a step is refused, and nothing else answered.
func holdRefused(t *testing.T, before api.Taint, i api.Insn, event int) {
	t.Helper()
	after, deps, err := taint.Step(before, i, event)
	if err != api.ErrArg || !(sets{}).hold(after) || !(hangs{}).hold(deps) {
		t.Errorf("Step(%v, %+v, %d) = %v, %v, %d", before, i, event, after, deps, err)
	}
}

func TestStepOfTaintsThatMayNotBe(t *testing.T) {
	for _, before := range broken() {
		for _, i := range append(right(t), wrong(t)...) {
			holdRefused(t, before, i, -1)
			holdRefused(t, before, i, 9)
			holdRefused(t, before, i, -2)
		}
	}
}

func TestStepOfInstructionsThatMayNotBe(t *testing.T) {
	for _, i := range wrong(t) {
		for _, s := range tainted() {
			holdRefused(t, s.taint(), i, -1)
			holdRefused(t, s.taint(), i, 9)
		}
	}
}

func TestStepOfEventsThatMayNotBe(t *testing.T) {
	for _, i := range right(t) {
		for _, event := range []int{-2, -3, -64, math.MinInt32, math.MinInt + 1, math.MinInt} {
			holdRefused(t, taint.New(), i, event)
			holdRefused(t, some().taint(), i, event)
		}
	}
}

func TestExamples(t *testing.T) {
	var s sets
	s.x[5], s.x[6] = of(3), of(4)
	for _, c := range []struct {
		text  string
		event int
		hangs hangs
		then  func(*sets)
	}{
		{"add x7, x5, x6", -1, hangs{}, func(s *sets) { s.x[7] = of(3, 4) }},
		{"sd x6, 0(x5)", 9, hangs{addr: of(3), data: of(4)}, nothing},
		{"beq x5, x0, 8", -1, hangs{}, func(s *sets) { s.way = of(3) }},
	} {
		want := s
		c.then(&want)
		after, deps, err := taint.Step(s.taint(), read(t, c.text), c.event)
		if err != api.OK || !want.hold(after) || !c.hangs.hold(deps) {
			t.Errorf("%s = %v, %v, %d", c.text, after, deps, err)
		}
	}
}
