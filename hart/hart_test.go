package hart_test

import (
	"math"
	"slices"
	"testing"

	"fencepost/api"
	"fencepost/hart"
	"fencepost/insn"
)

// P5.1: harts and instructions that may not be; New, Fail, Same, Check

// noEnds are numbers that tell no end, nor that a hart goes on.
func noEnds() []int {
	return []int{-1, -2, 7, 8, 64, 1 << 32, 1<<32 + 1, math.MinInt, math.MaxInt}
}

// broken answers harts that may not be.
func broken() []api.Hart {
	l := []api.Hart{at(100, regs{0: 1}), at(0, regs{0: math.MaxUint64, 1: 5}), at(100, regs{0: 1 << 63})}
	for _, how := range noEnds() {
		l = append(l, api.Hart{End: how}, api.Hart{PC: 100, End: how, Code: 1})
	}
	for _, how := range []int{api.EndNone, api.EndBreak, api.EndCall, api.EndAlign, api.EndSize, api.EndFetch} {
		for _, code := range []uint64{1, 9, 1 << 63, math.MaxUint64} {
			l = append(l, api.Hart{PC: 100, End: how, Code: code})
		}
	}
	// They may not be, and ended.
	for how := api.EndHalt; how <= api.EndFetch; how++ {
		h := at(100, regs{0: 1})
		h.End = how
		l = append(l, h)
	}
	return l
}

// over answers harts that ended.
func over() []api.Hart {
	l := []api.Hart{{PC: 100, End: api.EndHalt, Code: 9}, {End: api.EndHalt, Code: math.MaxUint64}}
	for how := api.EndHalt; how <= api.EndFetch; how++ {
		h := at(100, regs{1: 5, 31: 6})
		h.End = how
		l = append(l, h)
	}
	return l
}

// wrong answers instructions that may not be.
func wrong(t *testing.T) []api.Insn {
	l := []api.Insn{
		{}, {Op: -1}, {Op: 88}, {Op: math.MinInt}, {Op: math.MaxInt}, {Op: api.RvAddi, Rd: 32}, {Op: api.RvAddi, Rs1: -1}, {Op: api.RvAdd, Rs2: 32}, {Op: api.RvAdd, Rs1: math.MaxInt},
		{Op: api.RvAddi, Imm: 2048}, {Op: api.RvAddi, Imm: -2049}, {Op: api.RvAddi, Rs2: 1}, {Op: api.RvLd, Imm: 4096}, {Op: api.RvSd, Rd: 1}, {Op: api.RvBeq, Imm: 3}, {Op: api.RvJal, Imm: 1}, {Op: api.RvJal, Rs1: 1},
		{Op: api.RvSlliw, Imm: 32}, {Op: api.RvLui, Imm: 1 << 19}, {Op: api.RvFence, Pred: 16}, {Op: api.RvFence, Succ: -1}, {Op: api.RvEcall, Rd: 1}, {Op: api.RvEbreak, Imm: 1}, {Op: api.RvLrD, Rs2: 1}, {Op: api.RvLd, Aq: true}, {Op: api.RvScD, Imm: 8},
	}
	for _, i := range l {
		if insn.Check(i) == api.OK {
			t.Fatalf("%s may be", tell(i))
		}
	}
	return l
}

// right answers an instruction of each kind that may be.
func right(t *testing.T) []api.Insn {
	var l []api.Insn
	for _, text := range []string{
		"addi x1, x1, 1", "addi x0, x1, 1", "lui x1, 1", "auipc x1, 1", "jal x1, 8", "jal x1, 2", "jalr x1, 0(x1)", "beq x1, x1, 2", "add x1, x1, x1", "ld x1, 8(x0)", "ld x1, 1(x0)", "lw x1, 0(x0)",
		"sd x1, 8(x0)", "lr.d x1, (x0)", "sc.d x1, x1, (x0)", "amoadd.d x1, x1, (x0)", "fence rw, rw", "ecall", "ebreak",
	} {
		l = append(l, read(t, text))
	}
	return l
}

// holdRefused tells whether both calls refuse h and i by this error.
func holdRefused(t *testing.T, h api.Hart, i api.Insn, want api.Errno) {
	t.Helper()
	if got, err := hart.Ask(h, i); got != (api.Ask{}) || err != want {
		t.Errorf("Ask(%+v, %+v) = %+v, %d, want %d", h, i, got, err, want)
	}
	if got, err := hart.Step(h, i, 5, true); got != (api.Hart{}) || err != want {
		t.Errorf("Step(%+v, %+v) = %+v, %d, want %d", h, i, got, err, want)
	}
}

func TestHartsThatMayNotBe(t *testing.T) {
	// Both errors of a hart come ahead of an instruction's.
	for _, i := range append(right(t), wrong(t)...) {
		for _, h := range broken() {
			holdRefused(t, h, i, api.ErrArg)
		}
		for _, h := range over() {
			holdRefused(t, h, i, api.ErrState)
		}
	}
}

func TestInstructionsThatMayNotBe(t *testing.T) {
	for _, i := range wrong(t) {
		for _, h := range []api.Hart{{}, hart.New(100), at(100, regs{1: 5, 17: 1})} {
			holdRefused(t, h, i, api.ErrArg)
		}
	}
}

func TestCheck(t *testing.T) {
	for _, h := range append(harts(), api.Hart{}, hart.New(100), hart.New(math.MaxUint64), at(3, regs{1: 1, 31: math.MaxUint64})) {
		if err := hart.Check(h); err != api.OK {
			t.Errorf("Check(%+v) = %d", h, err)
		}
	}
	for _, h := range broken() {
		if err := hart.Check(h); err != api.ErrArg {
			t.Errorf("Check(%+v) = %d", h, err)
		}
	}
	for _, h := range over() {
		if err := hart.Check(h); err != api.ErrState {
			t.Errorf("Check(%+v) = %d", h, err)
		}
	}
}

func TestNew(t *testing.T) {
	for _, pc := range []uint64{0, 1, 4, 100, 4096, 1 << 31, 1 << 63, neg(4), math.MaxUint64} {
		if got := hart.New(pc); got != (api.Hart{PC: pc}) || hart.Check(got) != api.OK {
			t.Errorf("New(%d) = %+v", pc, got)
		}
	}
}

func TestFail(t *testing.T) {
	for _, h := range harts() {
		for how := api.EndHalt; how <= api.EndFetch; how++ {
			want := h
			want.End = how
			if got := hart.Fail(h, how); got != want {
				t.Errorf("Fail(%+v, %d) = %+v", h, how, got)
			}
		}
	}
}

func TestFailOfNoEnd(t *testing.T) {
	for _, h := range []api.Hart{{}, hart.New(100), at(100, regs{1: 5})} {
		for _, how := range append(noEnds(), api.EndNone) {
			if got := hart.Fail(h, how); got != h {
				t.Errorf("Fail(%+v, %d) = %+v", h, how, got)
			}
		}
	}
}

func TestFailOfWhatDoesNotGoOn(t *testing.T) {
	for _, h := range slices.Concat(broken(), over()) {
		for how := -1; how <= 7; how++ {
			if got := hart.Fail(h, how); got != h {
				t.Errorf("Fail(%+v, %d) = %+v", h, how, got)
			}
		}
	}
}

func TestSame(t *testing.T) {
	base := at(100, regs{1: 5, 31: 6})
	others := []api.Hart{base, base, base, base, base}
	others[0].PC = 104
	others[1].PC = 100 + 1<<32
	others[2].End = api.EndBreak
	others[3].End = 1 << 32
	others[4].Code = 1
	for x := range 32 {
		for _, by := range []uint64{1, 1 << 32, 1 << 63} {
			h := base
			h.X[x] += by
			others = append(others, h)
		}
	}
	for _, h := range append(others, base) {
		twin := h
		if !hart.Same(h, twin) {
			t.Errorf("%+v is not the same as it is", h)
		}
	}
	for _, h := range others {
		if hart.Same(base, h) || hart.Same(h, base) {
			t.Errorf("%+v is the same as %+v", h, base)
		}
	}
}
