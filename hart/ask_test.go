package hart_test

import (
	"math"
	"strconv"
	"testing"

	"fencepost/api"
	"fencepost/hart"
	"fencepost/insn"
)

// P5.1: what is asked

// holdAsk holds what an instruction of this text asks of h against what is so.
func holdAsk(t *testing.T, text string, h api.Hart, want api.Ask) {
	t.Helper()
	if got, err := hart.Ask(h, read(t, text)); got != want || err != api.OK {
		t.Errorf("%s asks %+v, %d, want %+v", text, got, err, want)
	}
}

func TestAsksOfMemory(t *testing.T) {
	h := at(100, regs{5: 4096, 6: 7, 7: neg(8), 8: 8, 9: math.MaxUint64, 31: 1 << 63})
	for _, c := range []struct {
		text string
		want api.Ask
	}{
		{"ld x1, 0(x5)", api.Ask{Kind: api.AskLoad, Addr: 4096}},
		{"ld x0, 8(x5)", api.Ask{Kind: api.AskLoad, Addr: 4104}},
		{"ld x5, -8(x5)", api.Ask{Kind: api.AskLoad, Addr: 4088}},
		{"ld x1, 2040(x5)", api.Ask{Kind: api.AskLoad, Addr: 6136}},
		{"ld x1, -2048(x5)", api.Ask{Kind: api.AskLoad, Addr: 2048}},
		{"ld x1, 1(x6)", api.Ask{Kind: api.AskLoad, Addr: 8}},
		{"ld x1, 16(x0)", api.Ask{Kind: api.AskLoad, Addr: 16}},
		{"sd x6, 0(x5)", api.Ask{Kind: api.AskStore, Addr: 4096, Value: 7}},
		{"sd x5, 2040(x5)", api.Ask{Kind: api.AskStore, Addr: 6136, Value: 4096}},
		{"sd x0, -2048(x5)", api.Ask{Kind: api.AskStore, Addr: 2048}},
		{"sd x9, 1(x6)", api.Ask{Kind: api.AskStore, Addr: 8, Value: math.MaxUint64}},
		{"lr.d x1, (x5)", api.Ask{Kind: api.AskLR, Addr: 4096}},
		{"lr.d.aq x1, (x5)", api.Ask{Kind: api.AskLR, Addr: 4096, Aq: true}},
		{"lr.d.rl x0, (x31)", api.Ask{Kind: api.AskLR, Addr: 1 << 63, Rl: true}},
		{"lr.d.aqrl x1, (x0)", api.Ask{Kind: api.AskLR, Aq: true, Rl: true}},
		{"sc.d x1, x6, (x5)", api.Ask{Kind: api.AskSC, Addr: 4096, Value: 7}},
		{"sc.d.aq x0, x5, (x8)", api.Ask{Kind: api.AskSC, Addr: 8, Value: 4096, Aq: true}},
		{"sc.d.rl x1, x0, (x5)", api.Ask{Kind: api.AskSC, Addr: 4096, Rl: true}},
		{"sc.d.aqrl x5, x5, (x5)", api.Ask{Kind: api.AskSC, Addr: 4096, Value: 4096, Aq: true, Rl: true}},
		{"amoadd.d x1, x6, (x5)", api.Ask{Kind: api.AskAmo, Addr: 4096, Value: 7, Op: api.RvAmoaddD}},
		{"amoswap.d.aq x0, x6, (x5)", api.Ask{Kind: api.AskAmo, Addr: 4096, Value: 7, Op: api.RvAmoswapD, Aq: true}},
		{"amomaxu.d.rl x1, x9, (x8)", api.Ask{Kind: api.AskAmo, Addr: 8, Value: math.MaxUint64, Op: api.RvAmomaxuD, Rl: true}},
		{"amoxor.d.aqrl x1, x0, (x0)", api.Ask{Kind: api.AskAmo, Op: api.RvAmoxorD, Aq: true, Rl: true}},
	} {
		holdAsk(t, c.text, h, c.want)
	}
}

func TestEveryAmoOfDoublesTellsItsOp(t *testing.T) {
	h := at(100, regs{5: 4096, 6: 7})
	for at, name := range []string{"swap", "add", "xor", "and", "or", "min", "max", "minu", "maxu"} {
		holdAsk(t, "amo"+name+".d x1, x6, (x5)", h, api.Ask{Kind: 5, Addr: 4096, Value: 7, Op: 79 + at})
	}
}

func TestAddressesGoRound(t *testing.T) {
	h := at(100, regs{5: 3, 6: neg(8), 7: neg(1), 8: 1 << 63, 9: 8})
	for _, c := range []struct {
		of   string
		addr uint64
	}{
		{"8(x6)", 0}, {"16(x6)", 8}, {"2040(x6)", 2032}, {"1(x7)", 0}, {"2041(x7)", 2040}, {"0(x6)", neg(8)},
		{"-16(x9)", neg(8)}, {"-8(x0)", neg(8)}, {"-2048(x0)", neg(2048)}, {"-3(x5)", 0}, {"-11(x5)", neg(8)}, {"-8(x8)", 1<<63 - 8},
	} {
		holdAsk(t, "ld x1, "+c.of, h, api.Ask{Kind: api.AskLoad, Addr: c.addr})
		holdAsk(t, "sd x5, "+c.of, h, api.Ask{Kind: api.AskStore, Addr: c.addr, Value: 3})
	}
}

func TestFencesAsk(t *testing.T) {
	for pred := range 16 {
		for succ := range 16 {
			want := api.Ask{Kind: api.AskFence, Pred: pred, Succ: succ}
			if got, err := hart.Ask(hart.New(8), api.Insn{Op: api.RvFence, Pred: pred, Succ: succ}); got != want || err != api.OK {
				t.Errorf("a fence of %d, %d asks %+v, %d", pred, succ, got, err)
			}
		}
	}
	holdAsk(t, "fence rw, w", hart.New(0), api.Ask{Kind: 6, Pred: 3, Succ: 1})
}

func TestWhatIsToldIsAsked(t *testing.T) {
	for _, v := range []uint64{0, 1, 9, math.MaxInt64, 1 << 63, math.MaxUint64} {
		h := at(100, regs{10: v, 11: 77, 17: api.CallOut})
		holdAsk(t, "ecall", h, api.Ask{Kind: api.AskOut, Value: v})
	}
}

func TestMarksAreAsked(t *testing.T) {
	h := at(100, regs{5: 70, 31: math.MaxUint64})
	for n := 1; n <= 2047; n++ {
		text := "addi x0, x5, " + strconv.Itoa(n)
		holdAsk(t, text, h, api.Ask{Kind: api.AskMark, Op: n, Value: 70})
	}
	holdAsk(t, "addi x0, x0, 3", h, api.Ask{Kind: api.AskMark, Op: 3})
	holdAsk(t, "addi x0, x31, 2047", h, api.Ask{Kind: api.AskMark, Op: 2047, Value: math.MaxUint64})
}

func TestNoMarksAreThese(t *testing.T) {
	h := at(100, regs{5: 70, 6: 3})
	for _, text := range []string{
		"addi x0, x5, 0", "addi x0, x0, 0", "addi x0, x5, -1", "addi x0, x5, -2048", "addi x1, x5, 1", "addi x5, x5, 2047", "addi x31, x5, 3",
		"addiw x0, x5, 1", "xori x0, x5, 1", "ori x0, x5, 1", "andi x0, x5, 1", "slti x0, x5, 1", "sltiu x0, x5, 1", "slli x0, x5, 1", "srai x0, x5, 1",
		"add x0, x5, x6", "lui x0, 1", "auipc x0, 1", "jal x0, 4", "jalr x0, 2(x5)",
	} {
		holdAsk(t, text, h, api.Ask{})
	}
}

func TestMostOpsAskNothing(t *testing.T) {
	h := at(100, regs{1: 1, 2: 2, 3: 3})
	for op := api.RvLui; op <= api.RvRemuw; op++ {
		if loads, stores, _ := insn.Memory(op); loads || stores {
			continue
		}
		i := api.Insn{Op: op, Rd: 1, Rs1: 2, Rs2: 3}
		switch insn.Form(op) {
		case api.FormU, api.FormJ:
			i.Rs1, i.Rs2 = 0, 0
		case api.FormI, api.FormShift:
			i.Rs2 = 0
		case api.FormB:
			i.Rd = 0
		}
		if got, err := hart.Ask(h, i); got != (api.Ask{}) || err != api.OK {
			t.Errorf("%s asks %+v, %d", tell(i), got, err)
		}
	}
}

func TestAskAsTheChapterTells(t *testing.T) {
	for h, i := range both() {
		want, _ := plain(h, i, 0, false)
		if got, err := hart.Ask(h, i); got != want || err != api.OK {
			t.Fatalf("%s of %+v asks %+v, %d, want %+v", tell(i), h, got, err, want)
		}
	}
}
