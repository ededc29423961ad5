package hart_test

import (
	"math"
	"slices"
	"strconv"
	"testing"

	"fencepost/api"
	"fencepost/hart"
	"fencepost/insn"
)

// P5.1: how a hart ends

// holdEnd tells whether an instruction ends h so, whatever is found and won: nothing is asked, all else stays.
func holdEnd(t *testing.T, i api.Insn, h api.Hart, how int, code uint64) {
	t.Helper()
	if got, err := hart.Ask(h, i); got != (api.Ask{}) || err != api.OK {
		t.Errorf("%s of %+v asks %+v, %d", tell(i), h, got, err)
	}
	want := h
	want.End, want.Code = how, code
	for _, won := range []bool{false, true} {
		for _, found := range []uint64{0, 9} {
			if got, err := hart.Step(h, i, found, won); got != want || err != api.OK {
				t.Errorf("%s of %+v = %+v, %d, want end %d, code %d", tell(i), h, got, err, how, code)
			}
		}
	}
}

// holdOn tells whether h goes on behind an instruction, at pc.
func holdOn(t *testing.T, i api.Insn, h api.Hart, pc uint64) {
	t.Helper()
	if got, err := hart.Step(h, i, 0, false); got.End != api.EndNone || got.Code != 0 || got.PC != pc || err != api.OK {
		t.Errorf("%s of %+v = %+v, %d, want pc %d", tell(i), h, got, err, pc)
	}
}

func TestEcallEnds(t *testing.T) {
	i := read(t, "ecall")
	for _, v := range []uint64{0, 1, 9, math.MaxInt64, 1 << 63, math.MaxUint64} {
		holdEnd(t, i, at(100, regs{10: v, 11: 5, 17: api.CallHalt}), api.EndHalt, v)
		holdOn(t, i, at(100, regs{10: v, 17: api.CallOut}), 104)
		for _, other := range []uint64{2, 3, 93, 1 << 32, 1<<32 + 1, 1 << 63, math.MaxUint64} {
			holdEnd(t, i, at(100, regs{10: v, 17: other}), api.EndCall, 0)
		}
	}
}

func TestEbreakEnds(t *testing.T) {
	for _, call := range []uint64{0, 1, 2} {
		holdEnd(t, read(t, "ebreak"), at(100, regs{10: 9, 17: call}), api.EndBreak, 0)
	}
}

// accesses answers all ops' instructions that touch memory at what is in x5, with their sizes.
func accesses() map[api.Insn]int {
	m := map[api.Insn]int{}
	for op := 1; op <= 87; op++ {
		loads, stores, size := insn.Memory(op)
		if !loads && !stores {
			continue
		}
		i := api.Insn{Op: op, Rd: 1, Rs1: 5, Rs2: 6}
		switch insn.Form(op) {
		case api.FormLoad, api.FormLR:
			i.Rs2 = 0
		case api.FormStore:
			i.Rd = 0
		}
		m[i] = size
	}
	return m
}

func TestAccessesOfLessThanDoublesEnd(t *testing.T) {
	sizes := map[int]int{}
	for i, size := range accesses() {
		sizes[size]++
		if size == 8 {
			continue
		}
		// Where they stand doesn't matter.
		for _, addr := range []uint64{0, 4096, 4097, 4098, 4100, 4103, math.MaxUint64} {
			holdEnd(t, i, at(100, regs{5: addr, 6: 3}), api.EndSize, 0)
		}
	}
	if sizes[1] != 3 || sizes[2] != 3 || sizes[4] != 14 || sizes[8] != 13 {
		t.Errorf("as many accesses by size: %v", sizes)
	}
	for _, text := range []string{"lb x1, 0(x5)", "lh x1, 0(x5)", "lw x0, 0(x5)", "lbu x1, 8(x5)", "lhu x1, 0(x5)", "lwu x1, 0(x5)", "sb x1, 0(x5)", "sh x1, 0(x5)", "sw x1, 0(x5)", "lr.w x1, (x5)", "sc.w.aq x0, x1, (x5)", "amoadd.w.rl x1, x2, (x5)"} {
		holdEnd(t, read(t, text), at(100, regs{1: 2, 5: 4096}), api.EndSize, 0)
	}
}

func TestDoublesStandAtMultiplesOfEight(t *testing.T) {
	for i, size := range accesses() {
		if size != 8 {
			continue
		}
		for _, base := range []uint64{0, 4096, 1 << 63, neg(8)} {
			for off := range uint64(8) {
				h := at(100, regs{5: base + off, 6: 3})
				if off == 0 {
					holdOn(t, i, h, 104)
				} else {
					holdEnd(t, i, h, api.EndAlign, 0)
				}
			}
		}
	}
}

func TestTheSumHasToBeAMultipleOfEight(t *testing.T) {
	for _, op := range []int{api.RvLd, api.RvSd} {
		for reg := neg(9); reg != 10; reg++ {
			for n := int64(-9); n <= 9; n++ {
				i, h := api.Insn{Op: op, Rs1: 5, Imm: n}, at(100, regs{5: reg})
				if (reg+uint64(n))%8 == 0 {
					holdOn(t, i, h, 104)
				} else {
					holdEnd(t, i, h, api.EndAlign, 0)
				}
			}
		}
	}
	holdEnd(t, read(t, "ld x2, 7(x0)"), hart.New(100), api.EndAlign, 0)
	holdEnd(t, read(t, "sd x2, -2047(x0)"), hart.New(100), api.EndAlign, 0)
	// A multiple of 4 is not enough.
	holdEnd(t, read(t, "ld x2, 4(x0)"), hart.New(100), api.EndAlign, 0)
}

func TestBranchesThatAreTakenLandOnMultiplesOfFour(t *testing.T) {
	for _, c := range []struct {
		name string
		a, b uint64
	}{
		{"beq", 5, 5}, {"bne", 5, 6}, {"blt", neg(1), 0}, {"bge", 0, neg(1)}, {"bge", 3, 3}, {"bltu", 0, neg(1)}, {"bgeu", neg(1), 0}, {"bgeu", 3, 3},
	} {
		for _, n := range []int64{-4096, -4094, -6, -4, -2, 0, 2, 4, 6, 8, 10, 4092, 4094} {
			i, h := read(t, c.name+" x1, x2, "+strconv.FormatInt(n, 10)), at(100, regs{1: c.a, 2: c.b})
			if n%4 == 0 {
				holdOn(t, i, h, h.PC+uint64(n))
			} else {
				holdEnd(t, i, h, api.EndFetch, 0)
			}
		}
	}
}

func TestBranchesThatAreNotTakenLandNowhere(t *testing.T) {
	for _, c := range []struct {
		name string
		a, b uint64
	}{
		{"beq", 5, 6}, {"bne", 5, 5}, {"blt", 0, neg(1)}, {"blt", 3, 3}, {"bge", neg(1), 0}, {"bltu", neg(1), 0}, {"bltu", 3, 3}, {"bgeu", 0, neg(1)},
	} {
		for _, n := range []int64{-4094, -2, 2, 6, 4094, 8} {
			holdOn(t, read(t, c.name+" x1, x2, "+strconv.FormatInt(n, 10)), at(100, regs{1: c.a, 2: c.b}), 104)
		}
	}
}

func TestJumpsLandOnMultiplesOfFour(t *testing.T) {
	for _, n := range []int64{-1048576, -1048574, -6, -4, -2, 0, 2, 4, 6, 1048572, 1048574} {
		i := read(t, "jal x1, "+strconv.FormatInt(n, 10))
		if n%4 == 0 {
			holdOn(t, i, hart.New(100), uint64(100+n))
		} else {
			holdEnd(t, i, hart.New(100), api.EndFetch, 0)
		}
	}
	for _, base := range []uint64{0, 400, 1 << 63, neg(8)} {
		for n := range int64(16) {
			// The lowest bit is dropped ahead of asking.
			i, h := api.Insn{Op: api.RvJalr, Rd: 1, Rs1: 5, Imm: n - 8}, at(100, regs{5: base})
			if n%4 < 2 {
				holdOn(t, i, h, base+uint64(n-8-n%4))
			} else {
				holdEnd(t, i, h, api.EndFetch, 0)
			}
			i, h.X[5] = api.Insn{Op: api.RvJalr, Rs1: 5}, base+uint64(n)
			if n%4 < 2 {
				holdOn(t, i, h, base+uint64(n-n%4))
			} else {
				holdEnd(t, i, h, api.EndFetch, 0)
			}
		}
	}
}

func TestWhereAHartIsNeedNotBeAMultipleOfFour(t *testing.T) {
	holdOn(t, read(t, "jal x1, 2"), hart.New(102), 104)
	holdEnd(t, read(t, "jal x1, 4"), hart.New(102), api.EndFetch, 0)
	holdOn(t, read(t, "beq x0, x0, -2"), hart.New(102), 100)
	holdEnd(t, read(t, "beq x0, x0, 8"), hart.New(101), api.EndFetch, 0)
	holdOn(t, read(t, "bne x0, x0, 8"), hart.New(101), 105)
	holdOn(t, read(t, "addi x1, x1, 1"), hart.New(102), 106)
	holdOn(t, read(t, "jalr x1, 8(x0)"), hart.New(103), 8)
}

func TestOnlyTheseEnd(t *testing.T) {
	met := make([]int, 7)
	for h, i := range both() {
		got, _ := hart.Step(h, i, 8, true)
		met[got.End]++
		_, want := plain(h, i, 8, true)
		if got.End != want.End || got.Code != want.Code {
			t.Fatalf("%s of %+v: end %d, code %d, want %d, %d", tell(i), h, got.End, got.Code, want.End, want.Code)
		}
	}
	if slices.Contains(met, 0) {
		t.Errorf("the test's harts end in some ways alone: %v", met)
	}
}
