package code_test

import (
	"math"
	"testing"

	"fencepost/api"
	"fencepost/code"
	"fencepost/insn"
)

// P3.1

func TestReferenceHasAllOps(t *testing.T) {
	all := ops()
	if len(all) != 87 {
		t.Fatalf("the test's list has %d ops", len(all))
	}
	for _, k := range all {
		if insn.Name(k.op) != k.name || len(k.cells) != 32 {
			t.Errorf("op %d is %q, of %d bits: want %q, 32", k.op, k.name, len(k.cells), insn.Name(k.op))
		}
	}
}

// told are instructions' texts, and the words that an assembler makes of them: each op is among them.
func told() []struct {
	text string
	word uint32
} {
	return []struct {
		text string
		word uint32
	}{
		{"lui x5, 524287", 0x7ffff2b7},
		{"lui x31, -524288", 0x80000fb7},
		{"auipc x1, -1", 0xfffff097},
		{"auipc x17, 74565", 0x12345897},
		{"jal x1, 2048", 0x001000ef},
		{"jal x0, -1048576", 0x8000006f},
		{"jal x31, 1048574", 0x7fffffef},
		{"jal x5, -2", 0xfffff2ef},
		{"jalr x0, 0(x1)", 0x00008067},
		{"jalr x1, -2047(x31)", 0x801f80e7},
		{"beq x1, x31, -4", 0xfff08ee3},
		{"bne x2, x30, 4094", 0x7fe11fe3},
		{"blt x3, x29, -4096", 0x81d1c063},
		{"bge x4, x28, 2048", 0x01c250e3},
		{"bltu x5, x27, -2", 0xffb2efe3},
		{"bgeu x6, x26, 30", 0x01a37f63},
		{"lb x5, 2047(x30)", 0x7fff0283},
		{"lh x6, -2048(x29)", 0x800e9303},
		{"lw x7, -1(x28)", 0xfffe2383},
		{"ld x8, 0(x27)", 0x000db403},
		{"lbu x9, 1(x26)", 0x001d4483},
		{"lhu x10, 1024(x25)", 0x400cd503},
		{"lwu x11, -1365(x24)", 0xaabc6583},
		{"sb x5, 2047(x30)", 0x7e5f0fa3},
		{"sh x6, -2048(x29)", 0x806e9023},
		{"sw x7, -33(x28)", 0xfc7e2fa3},
		{"sd x8, 31(x27)", 0x008dbfa3},
		{"addi x5, x30, -3", 0xffdf0293},
		{"slti x6, x29, 2047", 0x7ffea313},
		{"sltiu x7, x28, -2048", 0x800e3393},
		{"xori x8, x27, -1", 0xfffdc413},
		{"ori x9, x26, 1", 0x001d6493},
		{"andi x10, x25, 1365", 0x555cf513},
		{"addiw x11, x24, 0", 0x000c059b},
		{"slli x1, x2, 63", 0x03f11093},
		{"slli x31, x0, 0", 0x00001f93},
		{"srli x3, x4, 32", 0x02025193},
		{"srai x5, x6, 63", 0x43f35293},
		{"srai x7, x8, 1", 0x40145393},
		{"slliw x1, x2, 31", 0x01f1109b},
		{"srliw x3, x4, 1", 0x0012519b},
		{"sraiw x5, x6, 31", 0x41f3529b},
		{"sraiw x7, x8, 0", 0x4004539b},
		{"add x1, x3, x5", 0x005180b3},
		{"sub x2, x10, x16", 0x41050133},
		{"sll x3, x17, x27", 0x01b891b3},
		{"slt x4, x24, x6", 0x006c2233},
		{"sltu x5, x31, x17", 0x011fb2b3},
		{"xor x6, x6, x28", 0x01c34333},
		{"srl x7, x13, x7", 0x0076d3b3},
		{"sra x8, x20, x18", 0x412a5433},
		{"or x9, x27, x29", 0x01dde4b3},
		{"and x10, x2, x8", 0x00817533},
		{"addw x11, x9, x19", 0x013485bb},
		{"subw x12, x16, x30", 0x41e8063b},
		{"sllw x13, x23, x9", 0x009b96bb},
		{"srlw x14, x30, x20", 0x014f573b},
		{"sraw x15, x5, x31", 0x41f2d7bb},
		{"mul x16, x12, x10", 0x02a60833},
		{"mulh x17, x19, x21", 0x035998b3},
		{"mulhsu x18, x26, x0", 0x020d2933},
		{"mulhu x19, x1, x11", 0x02b0b9b3},
		{"div x20, x8, x22", 0x03644a33},
		{"divu x21, x15, x1", 0x0217dab3},
		{"rem x22, x22, x12", 0x02cb6b33},
		{"remu x23, x29, x23", 0x037efbb3},
		{"mulw x24, x4, x2", 0x02220c3b},
		{"divw x25, x11, x13", 0x02d5ccbb},
		{"divuw x26, x18, x24", 0x03895d3b},
		{"remw x27, x25, x3", 0x023cedbb},
		{"remuw x28, x0, x14", 0x02e07e3b},
		{"fence iorw, iorw", 0x0ff0000f},
		{"fence rw, w", 0x0310000f},
		{"fence i, o", 0x0840000f},
		{"fence r, w", 0x0210000f},
		{"fence 0, 0", 0x0000000f},
		{"fence w, 0", 0x0100000f},
		{"ecall", 0x00000073},
		{"ebreak", 0x00100073},
		{"lr.w x5, (x6)", 0x100322af},
		{"lr.d.aqrl x31, (x30)", 0x160f3faf},
		{"sc.w x1, x31, (x2)", 0x19f120af},
		{"sc.d.aq x2, x30, (x7)", 0x1de3b12f},
		{"amoswap.w.rl x3, x29, (x12)", 0x0bd621af},
		{"amoswap.d.aqrl x4, x28, (x17)", 0x0fc8b22f},
		{"amoadd.w x5, x27, (x22)", 0x01bb22af},
		{"amoadd.d.aq x6, x26, (x27)", 0x05adb32f},
		{"amoxor.w.rl x7, x25, (x0)", 0x239023af},
		{"amoxor.d.aqrl x8, x24, (x5)", 0x2782b42f},
		{"amoand.w x9, x23, (x10)", 0x617524af},
		{"amoand.d.aq x10, x22, (x15)", 0x6567b52f},
		{"amoor.w.rl x11, x21, (x20)", 0x435a25af},
		{"amoor.d.aqrl x12, x20, (x25)", 0x474cb62f},
		{"amomin.w x13, x19, (x30)", 0x813f26af},
		{"amomin.d.aq x14, x18, (x3)", 0x8521b72f},
		{"amomax.w.rl x15, x17, (x8)", 0xa31427af},
		{"amomax.d.aqrl x16, x16, (x13)", 0xa706b82f},
		{"amominu.w x17, x15, (x18)", 0xc0f928af},
		{"amominu.d.aq x18, x14, (x23)", 0xc4ebb92f},
		{"amomaxu.w.rl x19, x13, (x28)", 0xe2de29af},
		{"amomaxu.d.aqrl x20, x12, (x1)", 0xe6c0ba2f},
	}
}

func TestToldWords(t *testing.T) {
	met := map[int]bool{}
	for _, c := range told() {
		i, err := insn.Read(c.text)
		if err != api.OK {
			t.Fatalf("%q is no text", c.text)
		}
		met[i.Op] = true
		if got, err := code.Word(i); got != c.word || err != api.OK {
			t.Errorf("Word of %q = %08x, %d, want %08x", c.text, got, err, c.word)
		}
		if got, err := code.Insn(c.word); got != i || err != api.OK {
			t.Errorf("Insn(%08x) = %+v, %d, want %q", c.word, got, err, c.text)
		}
	}
	if len(met) != 87 {
		t.Errorf("%d ops are told of, want all", len(met))
	}
}

// P3.1, P3.3

func TestWordsThereAndBack(t *testing.T) {
	for _, k := range ops() {
		t.Run(k.name, func(t *testing.T) {
			t.Parallel()
			for _, i := range sample(k) {
				want := plainWord(k, i)
				if got, err := code.Word(i); got != want || err != api.OK {
					t.Fatalf("Word(%+v) = %08x, %d, want %08x", i, got, err, want)
				}
				if got, err := code.Insn(want); got != i || err != api.OK {
					t.Fatalf("Insn(%08x) = %+v, %d, want %+v", want, got, err, i)
				}
			}
		})
	}
}

func TestWordsTellInstructionsApart(t *testing.T) {
	met := map[uint32]api.Insn{}
	for _, k := range ops() {
		for _, i := range sample(k) {
			w := plainWord(k, i)
			if other, there := met[w]; there {
				t.Fatalf("%+v and %+v have the word %08x", other, i, w)
			}
			met[w] = i
		}
	}
}

// wrong answers instructions that may not be.
func wrong() []api.Insn {
	l := []api.Insn{{}, {Op: -1}, {Op: 88}, {Op: math.MinInt, Rd: 1}, {Op: math.MaxInt, Imm: 1}, {Op: 1<<32 + api.RvAdd}}
	for _, k := range ops() {
		amiss := func(i api.Insn) {
			i.Op = k.op
			l = append(l, i)
		}
		for _, x := range []int{-1, 32, 33, 1 << 32, math.MinInt, math.MaxInt} {
			amiss(api.Insn{Rd: x})
			amiss(api.Insn{Rs1: x})
			amiss(api.Insn{Rs2: x})
			amiss(api.Insn{Pred: x})
			amiss(api.Insn{Succ: x})
		}
		least, greatest, step := k.immEdges()
		for _, v := range []int64{least - 1, greatest + 1, greatest + step, 1 << 32, math.MinInt64, math.MaxInt64} {
			amiss(api.Insn{Imm: v})
		}
		if step == 2 {
			amiss(api.Insn{Imm: 1})
			amiss(api.Insn{Imm: greatest - 1})
		}
		for _, c := range []struct {
			field string
			i     api.Insn
		}{
			{"rd", api.Insn{Rd: 1}}, {"rs1", api.Insn{Rs1: 1}}, {"rs2", api.Insn{Rs2: 31}}, {"imm", api.Insn{Imm: 2}},
			{"aq", api.Insn{Aq: true}}, {"rl", api.Insn{Rl: true}}, {"pred", api.Insn{Pred: 1}}, {"succ", api.Insn{Succ: 15}},
		} {
			if !k.has(c.field) {
				amiss(c.i)
			}
		}
	}
	return l
}

func TestWordOfWhatMayNotBe(t *testing.T) {
	for _, i := range wrong() {
		if w, err := code.Word(i); w != 0 || err != api.ErrArg {
			t.Errorf("Word(%+v) = %08x, %d", i, w, err)
		}
	}
}

func TestWordsThatAreNone(t *testing.T) {
	for _, w := range []uint32{
		0x00000000, 0xffffffff, 0x80000000, 0x00000001, 0x7fffffff, 0xfffffffe,
		// opcodes that are none's: floats' loads and stores, an atomic one's neighbours, of 16 and of 64 bits
		0x00000007, 0x00000027, 0x00000043, 0x00000053, 0x0000002b, 0x0000006b, 0x0000000b, 0x00000057, 0x0000003f, 0x0000001f, 0x00000012, 0x00000011, 0x00000010,
		// a funct3 that no op has
		0x00001067, 0x00007067, 0x00002063, 0x00003063, 0x00007003, 0x00004023, 0x00005023, 0x00006023, 0x00007023,
		0x0000201b, 0x0000301b, 0x0000401b, 0x0000601b, 0x0000701b, 0x0000203b, 0x0000303b, 0x0000403b, 0x0000603b, 0x0000703b,
		0x0200103b, 0x0200203b, 0x0200303b, 0x0000002f, 0x0000102f, 0x0000402f, 0x0000502f, 0x0000602f, 0x0000702f, 0x1000402f,
		0x0000100f, 0x0ff0200f, 0x0000700f, 0x00001073, 0x00004073, 0xc0102573,
		// a funct7 that no op has
		0x04000033, 0x06000033, 0x80000033, 0x40001033, 0x40002033, 0x40003033, 0x40004033, 0x40006033, 0x40007033, 0x42000033, 0x60000033, 0xfe000033,
		0x0400003b, 0x4000103b, 0x4200003b, 0x4200503b, 0x8000003b, 0x08004033, 0x20002033,
		// a funct6 that no op has
		0x40001013, 0x04001013, 0x08001013, 0x80001013, 0x04005013, 0x08005013, 0x80005013, 0x44005013, 0x60005013, 0xfc005013, 0x28001013,
		// a short shift by more than 31
		0x0200101b, 0x03f1109b, 0x0200501b, 0x4200501b, 0x43f5501b,
		// a short shift's funct7
		0x4000101b, 0x0400101b, 0x8000101b, 0x6000501b, 0x8000501b, 0x0800101b,
		// a fence with its highest bits, Rs1, Rd
		0x1000000f, 0x2330000f, 0x4330000f, 0x8330000f, 0xf330000f, 0x0330800f, 0x033f800f, 0x0330008f, 0x03300f8f,
		// an ecall, an ebreak with something
		0x000000f3, 0x00008073, 0x00200073, 0x00300073, 0x00100173, 0x00108073, 0x80000073, 0x10200073, 0x30200073, 0x10500073, 0x02000073,
		// an lr with Rs2
		0x1013202f, 0x101322af, 0x11f322af, 0x140332af | 1<<20, 0x140332af | 1<<24, 0x1613302f,
		// an atomic one that there is not
		0x2800202f, 0x0800402f, 0x2000402f, 0x2a00302f, 0x3000202f, 0x5000202f, 0x7000302f, 0x9000202f, 0xb000302f, 0xd000202f, 0xf000302f, 0xf800202f, 0xe800302f,
	} {
		if i, err := code.Insn(w); i != (api.Insn{}) || err != api.ErrBad {
			t.Errorf("Insn(%08x) = %+v, %d", w, i, err)
		}
	}
}

// same holds the package against the reference, of many words at once.
func same(t *testing.T, all []known, l []uint32) {
	t.Helper()
	texts := code.Dump(l)
	if len(texts) != len(l) {
		t.Fatalf("Dump of %d words has %d texts", len(l), len(texts))
	}
	for at, w := range l {
		if want := plainText(all, w); texts[at] != want {
			t.Fatalf("Dump of %08x = %q, want %q", w, texts[at], want)
		}
	}
}

// sameOne holds Insn, and Word of it, against the reference.
func sameOne(t *testing.T, all []known, w uint32) {
	t.Helper()
	want, is := plainInsn(all, w)
	i, err := code.Insn(w)
	if i != want || is != (err == api.OK) || !is && err != api.ErrBad {
		t.Fatalf("Insn(%08x) = %+v, %d, want %+v", w, i, err, want)
	}
	if again, err := code.Word(i); is && (again != w || err != api.OK) {
		t.Fatalf("Word(%+v) = %08x, %d, want %08x", i, again, err, w)
	}
}

func TestEveryOpcodeWithAllThatTellsOps(t *testing.T) {
	all := ops()
	for low := range uint32(128) {
		var l []uint32
		for funct3 := range uint32(8) {
			for funct7 := range uint32(128) {
				w := low | funct3<<12 | funct7<<25
				for _, rest := range []uint32{0, 1 << 7, 1 << 15, 1 << 20, 1 << 24, 0x01f00000, 0x000f8f80} {
					l = append(l, w|rest)
				}
			}
		}
		same(t, all, l)
	}
}

func TestBitsTurned(t *testing.T) {
	all := ops()
	for _, c := range told() {
		sameOne(t, all, c.word)
		for a := range 32 {
			for b := range a + 1 {
				// a and b being the same, one bit is turned, else two.
				sameOne(t, all, c.word^(1<<a|1<<b))
			}
		}
	}
}

func TestOneBitTurnedIsAnotherOnesOrNones(t *testing.T) {
	for _, k := range ops() {
		good := sample(k)
		for _, i := range []api.Insn{good[0], good[len(good)/2], good[len(good)-1]} {
			w, _ := code.Word(i)
			for at := range 32 {
				j, err := code.Insn(w ^ 1<<at)
				if j == i || err != api.OK && (err != api.ErrBad || j != api.Insn{}) {
					t.Errorf("Insn(%08x) = %+v, %d: the word of %+v with bit %d turned", w^1<<at, j, err, i, at)
				}
			}
		}
	}
}

func TestWordsHereAndThere(t *testing.T) {
	all := ops()
	var l []uint32
	x := uint64(1)
	for len(l) < 1<<16 {
		x = x*6364136223846793005 + 1442695040888963407
		l = append(l, uint32(x>>32), uint32(x>>32)&^127|0x33, uint32(x>>32)&^127|0x13, uint32(x>>32)&^127|0x2f)
	}
	same(t, all, l)
}
