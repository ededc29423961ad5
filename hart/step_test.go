package hart_test

import (
	"math"
	"testing"

	"fencepost/alu"
	"fencepost/api"
	"fencepost/hart"
	"fencepost/insn"
)

// P5.1: what is done

// holdStep tells whether an instruction of this text, done by h, changes just this: where it is, and these registers.
func holdStep(t *testing.T, text string, h api.Hart, found uint64, won bool, pc uint64, changed regs) {
	t.Helper()
	want := h
	want.PC = pc
	for x, v := range changed {
		want.X[x] = v
	}
	if got, err := hart.Step(h, read(t, text), found, won); got != want || err != api.OK {
		t.Errorf("%s of %+v = %+v, %d, want %+v", text, h, got, err, want)
	}
}

func TestOpsReckon(t *testing.T) {
	h := at(100, regs{1: 5, 2: neg(7), 3: 2, 4: 1 << 31, 31: math.MaxUint64})
	for _, c := range []struct {
		text string
		x    int
		want uint64
	}{
		{"addi x9, x1, 1", 9, 6}, {"addi x1, x1, -2048", 1, neg(2043)}, {"addi x9, x31, 1", 9, 0}, {"addi x9, x0, -1", 9, math.MaxUint64},
		{"slti x9, x2, -6", 9, 1}, {"sltiu x9, x1, -1", 9, 1}, {"xori x9, x1, -1", 9, neg(6)}, {"ori x9, x1, 2", 9, 7}, {"andi x9, x1, 4", 9, 4},
		{"slli x9, x1, 63", 9, 1 << 63}, {"srli x9, x31, 63", 9, 1}, {"srai x9, x2, 1", 9, neg(4)},
		{"addiw x9, x4, -1", 9, 1<<31 - 1}, {"slliw x9, x1, 31", 9, 0xffffffff80000000}, {"srliw x9, x4, 31", 9, 1}, {"sraiw x9, x4, 31", 9, math.MaxUint64},
		{"add x9, x1, x2", 9, neg(2)}, {"sub x9, x1, x2", 9, 12}, {"sub x9, x2, x1", 9, neg(12)}, {"sll x9, x3, x1", 9, 64}, {"slt x9, x2, x1", 9, 1}, {"sltu x9, x2, x1", 9, 0},
		{"xor x9, x1, x3", 9, 7}, {"srl x9, x1, x3", 9, 1}, {"sra x9, x2, x3", 9, neg(2)}, {"or x9, x1, x3", 9, 7}, {"and x9, x1, x31", 9, 5},
		{"addw x9, x4, x4", 9, 0}, {"subw x9, x0, x4", 9, 0xffffffff80000000}, {"sllw x9, x1, x3", 9, 20}, {"srlw x9, x31, x1", 9, 1<<27 - 1}, {"sraw x9, x4, x3", 9, 0xffffffffe0000000},
		{"mul x9, x1, x2", 9, neg(35)}, {"mulh x9, x2, x1", 9, math.MaxUint64}, {"mulhsu x9, x1, x2", 9, 4}, {"mulhu x9, x31, x3", 9, 1},
		{"div x9, x2, x3", 9, neg(3)}, {"divu x9, x1, x0", 9, math.MaxUint64}, {"rem x9, x2, x3", 9, math.MaxUint64}, {"remu x9, x1, x0", 9, 5},
		{"mulw x9, x4, x3", 9, 0}, {"divw x9, x4, x3", 9, 0xffffffffc0000000}, {"divuw x9, x4, x3", 9, 1 << 30}, {"remw x9, x2, x3", 9, math.MaxUint64}, {"remuw x9, x31, x1", 9, 0},
		{"add x1, x1, x1", 1, 10}, {"sub x2, x1, x2", 2, 12}, {"sub x1, x1, x2", 1, 12}, {"add x31, x31, x31", 31, neg(2)},
	} {
		holdStep(t, c.text, h, 77, true, 104, regs{c.x: c.want})
	}
}

func TestOpsReckonAsAluTells(t *testing.T) {
	h := at(100, regs{1: 0x123456789abcdef0, 2: neg(3), 3: 77})
	for op := api.RvAddi; op <= api.RvRemuw; op++ {
		i, b := api.Insn{Op: op, Rd: 3, Rs1: 1, Rs2: 2}, neg(3)
		switch insn.Form(op) {
		case api.FormI:
			i.Rs2, i.Imm = 0, -3
		case api.FormShift:
			i.Rs2, i.Imm, b = 0, 29, 29
		}
		want := h
		want.PC = 104
		v, err := alu.Do(op, h.X[1], b)
		want.X[3] = v
		if got, err2 := hart.Step(h, i, 0, false); got != want || err != api.OK || err2 != api.OK {
			t.Errorf("%s = %+v, %d, want %+v", tell(i), got, err2, want)
		}
	}
}

func TestRegisterNoughtStaysNought(t *testing.T) {
	h := at(100, regs{1: 5, 2: 8, 3: 1, 10: 9, 17: 1})
	for text, pc := range map[string]uint64{
		"lui x0, 1": 104, "auipc x0, 1": 104, "jal x0, 40": 140, "jalr x0, 0(x2)": 8, "addi x0, x1, 1": 104, "addi x0, x1, -1": 104, "addiw x0, x1, 1": 104,
		"slli x0, x1, 3": 104, "add x0, x1, x2": 104, "mulw x0, x1, x2": 104, "ld x0, 0(x2)": 104, "lr.d x0, (x2)": 104, "sc.d x0, x1, (x2)": 104, "amoor.d x0, x1, (x2)": 104,
	} {
		holdStep(t, text, h, 77, false, pc, nil)
		holdStep(t, text, h, 77, true, pc, nil)
	}
}

func TestNothingIsWrittenByThese(t *testing.T) {
	h := at(100, regs{1: 5, 2: 8, 3: 1, 10: 9, 17: 1})
	for text, pc := range map[string]uint64{
		"sd x1, 0(x2)": 104, "fence rw, rw": 104, "fence 0, 0": 104, "ecall": 104, "addi x0, x1, 7": 104,
		"beq x1, x2, 40": 104, "bne x1, x2, 40": 140, "blt x2, x1, -40": 104, "bge x2, x1, -40": 60, "bltu x1, x2, 4092": 4192, "bgeu x1, x2, 4092": 104, "beq x1, x1, 0": 100,
	} {
		holdStep(t, text, h, 77, false, pc, nil)
		holdStep(t, text, h, 77, true, pc, nil)
	}
}

func TestUpperNumbers(t *testing.T) {
	for _, c := range []struct {
		number string
		want   uint64
	}{
		{"0", 0}, {"1", 4096}, {"-1", 0xfffffffffffff000}, {"524287", 0x7ffff000}, {"-524288", 0xffffffff80000000}, {"-524287", 0xffffffff80001000}, {"74565", 0x12345000},
	} {
		for _, pc := range []uint64{0, 100, 4096, 1 << 31, 1<<63 - 4, neg(4), math.MaxUint64} {
			h := at(pc, regs{1: 5, 2: 6})
			holdStep(t, "lui x1, "+c.number, h, 77, true, pc+4, regs{1: c.want})
			holdStep(t, "auipc x1, "+c.number, h, 77, true, pc+4, regs{1: pc + c.want})
		}
	}
	holdStep(t, "auipc x2, 1", hart.New(neg(4096)), 0, false, neg(4092), regs{2: 0})
	holdStep(t, "auipc x2, -524288", hart.New(0x80000000), 0, false, 0x80000004, regs{2: 0})
	holdStep(t, "auipc x2, -1", hart.New(100), 0, false, 104, regs{2: neg(3996)})
}

func TestJumps(t *testing.T) {
	holdStep(t, "jal x1, 2048", hart.New(100), 77, true, 2148, regs{1: 104})
	holdStep(t, "jal x1, -100", hart.New(100), 0, false, 0, regs{1: 104})
	holdStep(t, "jal x31, 0", hart.New(100), 0, false, 100, regs{31: 104})
	holdStep(t, "jal x1, -104", hart.New(100), 0, false, neg(4), regs{1: 104})
	holdStep(t, "jal x1, 8", hart.New(neg(4)), 0, false, 4, regs{1: 0})
	holdStep(t, "jal x1, 1048572", hart.New(4), 0, false, 1<<20, regs{1: 8})
	holdStep(t, "jal x1, -1048576", hart.New(1<<20), 0, false, 0, regs{1: 1<<20 + 4})
	h := at(100, regs{1: 400, 2: 401, 3: neg(8), 4: 399})
	for _, c := range []struct {
		text string
		pc   uint64
		rd   int
	}{
		{"jalr x9, 0(x1)", 400, 9}, {"jalr x9, 4(x1)", 404, 9}, {"jalr x9, 1(x1)", 400, 9}, {"jalr x9, 5(x1)", 404, 9}, {"jalr x9, -4(x1)", 396, 9}, {"jalr x9, -3(x1)", 396, 9},
		{"jalr x9, 0(x2)", 400, 9}, {"jalr x9, -1(x2)", 400, 9}, {"jalr x9, 3(x2)", 404, 9}, {"jalr x9, 4(x2)", 404, 9}, {"jalr x9, 1(x4)", 400, 9}, {"jalr x9, 2(x4)", 400, 9},
		{"jalr x9, 8(x3)", 0, 9}, {"jalr x9, 2040(x3)", 2032, 9}, {"jalr x9, 0(x3)", neg(8), 9}, {"jalr x9, -4(x0)", neg(4), 9}, {"jalr x9, 2044(x0)", 2044, 9}, {"jalr x9, 1(x0)", 0, 9},
		{"jalr x1, 0(x1)", 400, 1}, {"jalr x1, 8(x1)", 408, 1}, {"jalr x2, 0(x2)", 400, 2}, {"jalr x2, 3(x2)", 404, 2}, {"jalr x3, 8(x3)", 0, 3}, {"jalr x4, 1(x4)", 400, 4},
	} {
		holdStep(t, c.text, h, 77, true, c.pc, regs{c.rd: 104})
	}
}

func TestBranchesGoWhereTheyGo(t *testing.T) {
	for _, c := range []struct {
		text string
		from uint64
		to   uint64
	}{
		{"beq x1, x1, 8", 100, 108}, {"beq x1, x1, -8", 100, 92}, {"beq x1, x1, -4096", 100, neg(3996)}, {"beq x1, x1, 4092", 100, 4192}, {"beq x1, x1, 8", neg(4), 4}, {"beq x1, x1, 0", 100, 100},
		{"bne x1, x1, 8", neg(4), 0}, {"bne x1, x1, 8", 100, 104}, {"blt x2, x1, 8", 100, 108}, {"bltu x2, x1, 8", 100, 104}, {"bge x1, x2, 8", 100, 108}, {"bgeu x1, x2, 8", 100, 104}, {"bne x1, x2, 12", 100, 112},
		{"blt x0, x1, 8", 100, 108}, {"blt x1, x0, 8", 100, 104}, {"bge x0, x1, 8", 100, 104}, {"beq x0, x0, 16", 100, 116},
	} {
		holdStep(t, c.text, at(c.from, regs{1: 5, 2: neg(1)}), 77, true, c.to, nil)
	}
}

func TestWhatWasFoundIsToldToThoseThatLoad(t *testing.T) {
	h := at(100, regs{1: 5, 2: 4096})
	for _, found := range []uint64{0, 1, 77, 1 << 63, math.MaxUint64} {
		for _, won := range []bool{false, true} {
			for _, name := range []string{"ld x1, 8(x2)", "lr.d x1, (x2)", "lr.d.aqrl x1, (x2)", "amoadd.d x1, x1, (x2)", "amoswap.d.rl x1, x2, (x2)", "amominu.d x1, x0, (x2)"} {
				holdStep(t, name, h, found, won, 104, regs{1: found})
			}
			holdStep(t, "ld x2, 8(x2)", h, found, won, 104, regs{2: found})
			holdStep(t, "lr.d x2, (x2)", h, found, won, 104, regs{2: found})
			holdStep(t, "amoxor.d x2, x2, (x2)", h, found, won, 104, regs{2: found})
			holdStep(t, "sd x1, 8(x2)", h, found, won, 104, nil)
			holdStep(t, "addi x1, x1, 1", h, found, won, 104, regs{1: 6})
			holdStep(t, "jal x1, 4", h, found, won, 104, regs{1: 104})
		}
	}
	for at, name := range []string{"swap", "add", "xor", "and", "or", "min", "max", "minu", "maxu"} {
		holdStep(t, "amo"+name+".d x7, x1, (x2)", h, uint64(at)+50, false, 104, regs{7: uint64(at) + 50})
	}
}

func TestScTellsWhetherItWon(t *testing.T) {
	h := at(100, regs{1: 5, 2: 4096})
	for _, found := range []uint64{0, 1, 77} {
		for _, text := range []string{"sc.d x1, x1, (x2)", "sc.d.aq x1, x2, (x2)", "sc.d.rl x1, x0, (x2)", "sc.d.aqrl x1, x1, (x2)"} {
			holdStep(t, text, h, found, true, 104, regs{1: 0})
			holdStep(t, text, h, found, false, 104, regs{1: 1})
		}
		holdStep(t, "sc.d x2, x1, (x2)", h, found, true, 104, regs{2: 0})
		holdStep(t, "sc.d x2, x1, (x2)", h, found, false, 104, regs{2: 1})
	}
}

func TestWhereAHartIsGoesRound(t *testing.T) {
	holdStep(t, "addi x1, x1, 1", hart.New(neg(4)), 0, false, 0, regs{1: 1})
	holdStep(t, "fence r, w", hart.New(math.MaxUint64), 0, false, 3, nil)
	holdStep(t, "ld x1, 0(x0)", hart.New(neg(2)), 6, false, 2, regs{1: 6})
}

func TestStepAsTheChapterTells(t *testing.T) {
	for h, i := range both() {
		for _, won := range []bool{false, true} {
			_, want := plain(h, i, 0xabcdef, won)
			if got, err := hart.Step(h, i, 0xabcdef, won); got != want || err != api.OK {
				t.Fatalf("%s of %+v = %+v, %d, want %+v", tell(i), h, got, err, want)
			}
		}
	}
}

// The chapter's examples.

func TestExamples(t *testing.T) {
	holdStep(t, "addi x2, x1, 1", at(100, regs{1: 5}), 0, false, 104, regs{2: 6})
	holdEnd(t, read(t, "ld x2, 0(x1)"), at(100, regs{1: 4}), 4, 0)
	holdEnd(t, read(t, "ecall"), at(100, regs{10: 9, 17: 0}), 1, 9)
}

// P5.2

// scrambled answers h with other numbers in all registers but 0 and these.
func scrambled(h api.Hart, but []int) api.Hart {
	other := h
	for x := 1; x < 32; x++ {
		other.X[x] = ^h.X[x]*5 + uint64(x)
	}
	for _, x := range but {
		other.X[x] = h.X[x]
	}
	return other
}

func TestAStepChangesWhatItWritesAlone(t *testing.T) {
	for h, i := range both() {
		got, err := hart.Step(h, i, 0xabcdef, false)
		if err != api.OK {
			t.Fatalf("%s of %+v: %d", tell(i), h, err)
		}
		for x := range got.X {
			if got.X[x] != h.X[x] && (x == 0 || x != insn.Writes(i)) {
				t.Fatalf("%s of %+v changes x%d", tell(i), h, x)
			}
		}
		if got.End != api.EndNone && (got.PC != h.PC || got.X != h.X) {
			t.Fatalf("%s of %+v ends, and changes it: %+v", tell(i), h, got)
		}
	}
}

func TestWhatIsNotReadDoesNotMatter(t *testing.T) {
	for h, i := range both() {
		other := scrambled(h, insn.Reads(i))
		asked, _ := hart.Ask(h, i)
		again, err := hart.Ask(other, i)
		if again != asked || err != api.OK {
			t.Fatalf("%s asks %+v, and with other numbers in what it doesn't read %+v, %d", tell(i), asked, again, err)
		}
		then, _ := hart.Step(h, i, 0xabcdef, true)
		want := other
		want.PC, want.End, want.Code = then.PC, then.End, then.Code
		if x := insn.Writes(i); then.End == api.EndNone {
			want.X[x] = then.X[x]
		}
		if got, err := hart.Step(other, i, 0xabcdef, true); got != want || err != api.OK {
			t.Fatalf("%s comes to %+v, and with other numbers in what it doesn't read to %+v, %d", tell(i), then, got, err)
		}
	}
}

func TestWhatWasFoundAndWonMattersToFew(t *testing.T) {
	for h, i := range both() {
		loads, _, _ := insn.Memory(i.Op)
		conditional := i.Op == api.RvScW || i.Op == api.RvScD
		base, _ := hart.Step(h, i, 1, false)
		if got, _ := hart.Step(h, i, 2, false); !loads && got != base {
			t.Fatalf("%s of %+v hangs on what was found", tell(i), h)
		}
		if got, _ := hart.Step(h, i, 1, true); !conditional && got != base {
			t.Fatalf("%s of %+v hangs on what was won", tell(i), h)
		}
	}
}
