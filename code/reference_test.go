package code_test

import (
	"slices"
	"strconv"
	"strings"

	"fencepost/api"
	"fencepost/insn"
)

// What stands here is the chapter told once more, by other means than the package's: each op's word as a line of what stands in it, from the highest bit down, gone through bit by bit.

// listing has the ops in the order of their numbers.
const listing = `
lui       imm[19:0] rd 0110111
auipc     imm[19:0] rd 0010111
jal       imm[20|10:1|11|19:12] rd 1101111
jalr      imm[11:0] rs1 000 rd 1100111
beq       imm[12|10:5] rs2 rs1 000 imm[4:1|11] 1100011
bne       imm[12|10:5] rs2 rs1 001 imm[4:1|11] 1100011
blt       imm[12|10:5] rs2 rs1 100 imm[4:1|11] 1100011
bge       imm[12|10:5] rs2 rs1 101 imm[4:1|11] 1100011
bltu      imm[12|10:5] rs2 rs1 110 imm[4:1|11] 1100011
bgeu      imm[12|10:5] rs2 rs1 111 imm[4:1|11] 1100011
lb        imm[11:0] rs1 000 rd 0000011
lh        imm[11:0] rs1 001 rd 0000011
lw        imm[11:0] rs1 010 rd 0000011
ld        imm[11:0] rs1 011 rd 0000011
lbu       imm[11:0] rs1 100 rd 0000011
lhu       imm[11:0] rs1 101 rd 0000011
lwu       imm[11:0] rs1 110 rd 0000011
sb        imm[11:5] rs2 rs1 000 imm[4:0] 0100011
sh        imm[11:5] rs2 rs1 001 imm[4:0] 0100011
sw        imm[11:5] rs2 rs1 010 imm[4:0] 0100011
sd        imm[11:5] rs2 rs1 011 imm[4:0] 0100011
addi      imm[11:0] rs1 000 rd 0010011
slti      imm[11:0] rs1 010 rd 0010011
sltiu     imm[11:0] rs1 011 rd 0010011
xori      imm[11:0] rs1 100 rd 0010011
ori       imm[11:0] rs1 110 rd 0010011
andi      imm[11:0] rs1 111 rd 0010011
slli      000000 imm[5:0] rs1 001 rd 0010011
srli      000000 imm[5:0] rs1 101 rd 0010011
srai      010000 imm[5:0] rs1 101 rd 0010011
addiw     imm[11:0] rs1 000 rd 0011011
slliw     0000000 imm[4:0] rs1 001 rd 0011011
srliw     0000000 imm[4:0] rs1 101 rd 0011011
sraiw     0100000 imm[4:0] rs1 101 rd 0011011
add       0000000 rs2 rs1 000 rd 0110011
sub       0100000 rs2 rs1 000 rd 0110011
sll       0000000 rs2 rs1 001 rd 0110011
slt       0000000 rs2 rs1 010 rd 0110011
sltu      0000000 rs2 rs1 011 rd 0110011
xor       0000000 rs2 rs1 100 rd 0110011
srl       0000000 rs2 rs1 101 rd 0110011
sra       0100000 rs2 rs1 101 rd 0110011
or        0000000 rs2 rs1 110 rd 0110011
and       0000000 rs2 rs1 111 rd 0110011
addw      0000000 rs2 rs1 000 rd 0111011
subw      0100000 rs2 rs1 000 rd 0111011
sllw      0000000 rs2 rs1 001 rd 0111011
srlw      0000000 rs2 rs1 101 rd 0111011
sraw      0100000 rs2 rs1 101 rd 0111011
mul       0000001 rs2 rs1 000 rd 0110011
mulh      0000001 rs2 rs1 001 rd 0110011
mulhsu    0000001 rs2 rs1 010 rd 0110011
mulhu     0000001 rs2 rs1 011 rd 0110011
div       0000001 rs2 rs1 100 rd 0110011
divu      0000001 rs2 rs1 101 rd 0110011
rem       0000001 rs2 rs1 110 rd 0110011
remu      0000001 rs2 rs1 111 rd 0110011
mulw      0000001 rs2 rs1 000 rd 0111011
divw      0000001 rs2 rs1 100 rd 0111011
divuw     0000001 rs2 rs1 101 rd 0111011
remw      0000001 rs2 rs1 110 rd 0111011
remuw     0000001 rs2 rs1 111 rd 0111011
fence     0000 pred succ 00000 000 00000 0001111
ecall     000000000000 00000 000 00000 1110011
ebreak    000000000001 00000 000 00000 1110011
lr.w      00010 aq rl 00000 rs1 010 rd 0101111
lr.d      00010 aq rl 00000 rs1 011 rd 0101111
sc.w      00011 aq rl rs2 rs1 010 rd 0101111
sc.d      00011 aq rl rs2 rs1 011 rd 0101111
amoswap.w 00001 aq rl rs2 rs1 010 rd 0101111
amoadd.w  00000 aq rl rs2 rs1 010 rd 0101111
amoxor.w  00100 aq rl rs2 rs1 010 rd 0101111
amoand.w  01100 aq rl rs2 rs1 010 rd 0101111
amoor.w   01000 aq rl rs2 rs1 010 rd 0101111
amomin.w  10000 aq rl rs2 rs1 010 rd 0101111
amomax.w  10100 aq rl rs2 rs1 010 rd 0101111
amominu.w 11000 aq rl rs2 rs1 010 rd 0101111
amomaxu.w 11100 aq rl rs2 rs1 010 rd 0101111
amoswap.d 00001 aq rl rs2 rs1 011 rd 0101111
amoadd.d  00000 aq rl rs2 rs1 011 rd 0101111
amoxor.d  00100 aq rl rs2 rs1 011 rd 0101111
amoand.d  01100 aq rl rs2 rs1 011 rd 0101111
amoor.d   01000 aq rl rs2 rs1 011 rd 0101111
amomin.d  10000 aq rl rs2 rs1 011 rd 0101111
amomax.d  10100 aq rl rs2 rs1 011 rd 0101111
amominu.d 11000 aq rl rs2 rs1 011 rd 0101111
amomaxu.d 11100 aq rl rs2 rs1 011 rd 0101111
`

// cell is what stands in one bit of a word: a field's bit, or, of no field, a fixed one.
type cell struct {
	field string
	bit   int
}

// known is an op with its word's cells, the highest one first, and the word's fixed bits.
type known struct {
	op          int
	name        string
	cells       []cell
	mask, value uint32
}

// cellsOf tells what a piece of a line stands for.
func cellsOf(piece string) []cell {
	row := func(field string, high, low int) []cell {
		var l []cell
		for at := high; at >= low; at-- {
			l = append(l, cell{field, at})
		}
		return l
	}
	switch piece {
	case "rd", "rs1", "rs2":
		return row(piece, 4, 0)
	case "pred", "succ":
		return row(piece, 3, 0)
	case "aq", "rl":
		return row(piece, 0, 0)
	}
	var l []cell
	if rows, is := strings.CutPrefix(piece, "imm["); is {
		for r := range strings.SplitSeq(strings.TrimSuffix(rows, "]"), "|") {
			first, last, two := strings.Cut(r, ":")
			if !two {
				last = first
			}
			high, _ := strconv.Atoi(first)
			low, _ := strconv.Atoi(last)
			l = append(l, row("imm", high, low)...)
		}
		return l
	}
	for _, c := range piece {
		l = append(l, cell{"", int(c - '0')})
	}
	return l
}

func ops() []known {
	var l []known
	for line := range strings.Lines(strings.TrimSpace(listing)) {
		pieces := strings.Fields(line)
		k := known{op: len(l) + 1, name: pieces[0]}
		for _, p := range pieces[1:] {
			k.cells = append(k.cells, cellsOf(p)...)
		}
		for at, c := range k.cells {
			if c.field == "" {
				k.mask |= 1 << (31 - at)
				k.value |= uint32(c.bit) << (31 - at)
			}
		}
		l = append(l, k)
	}
	return l
}

func (k known) has(field string) bool {
	return slices.ContainsFunc(k.cells, func(c cell) bool { return c.field == field })
}

// immBits counts the bits of an op's number, those that are always 0 too.
func (k known) immBits() int {
	n := 0
	for _, c := range k.cells {
		if c.field == "imm" {
			n = max(n, c.bit+1)
		}
	}
	return n
}

// immEdges answers the least and the greatest number of an op, and the step between good ones.
func (k known) immEdges() (least, greatest, step int64) {
	n := k.immBits()
	switch {
	case n == 0:
		return 0, 0, 1
	case n <= 6:
		return 0, 1<<n - 1, 1
	case n == 13, n == 21:
		step = 2
	default:
		step = 1
	}
	half := int64(1) << (n - 1)
	return -half, half - step, step
}

// plainFields answers an instruction's fields as numbers.
func plainFields(i api.Insn) map[string]int64 {
	f := map[string]int64{
		"rd": int64(i.Rd), "rs1": int64(i.Rs1), "rs2": int64(i.Rs2), "imm": i.Imm,
		"pred": int64(i.Pred), "succ": int64(i.Succ),
	}
	if i.Aq {
		f["aq"] = 1
	}
	if i.Rl {
		f["rl"] = 1
	}
	return f
}

// plainWord fills an op's cells, of an instruction that may be.
func plainWord(k known, i api.Insn) uint32 {
	f := plainFields(i)
	w := uint32(0)
	for _, c := range k.cells {
		bit := int64(c.bit)
		if c.field != "" {
			bit = f[c.field] >> c.bit & 1
		}
		w = w<<1 | uint32(bit)
	}
	return w
}

// plainInsn answers the instruction whose fixed bits a word has; false, if it is none's.
func plainInsn(all []known, w uint32) (api.Insn, bool) {
	for _, k := range all {
		if w&k.mask != k.value {
			continue
		}
		f := map[string]int64{}
		for at, c := range k.cells {
			if w>>(31-at)&1 == 1 {
				f[c.field] += 1 << c.bit
			}
		}
		if _, greatest, _ := k.immEdges(); f["imm"] > greatest {
			f["imm"] -= 1 << k.immBits()
		}
		return api.Insn{
			Op: k.op, Rd: int(f["rd"]), Rs1: int(f["rs1"]), Rs2: int(f["rs2"]), Imm: f["imm"],
			Aq: f["aq"] == 1, Rl: f["rl"] == 1, Pred: int(f["pred"]), Succ: int(f["succ"]),
		}, true
	}
	return api.Insn{}, false
}

// plainText answers what Dump tells of a word.
func plainText(all []known, w uint32) string {
	if i, is := plainInsn(all, w); is {
		s, _ := insn.Text(i)
		return s
	}
	const digits = "0123456789abcdef"
	s := "."
	for at := 28; at >= 0; at -= 4 {
		s += digits[w>>at&15 : w>>at&15+1]
	}
	return s
}

// numbersOf answers numbers that may stand in an op's instructions: the edges, each bit alone, all bits but the lower ones.
func numbersOf(k known) []int64 {
	least, greatest, step := k.immEdges()
	l := []int64{least, least + step, -3 * step, -step, 0, step, greatest - step, greatest}
	for v := step; v <= greatest; v *= 2 {
		l = append(l, v, -v, 5*v/4/step*step)
	}
	l = slices.DeleteFunc(l, func(v int64) bool { return v < least || v > greatest })
	slices.Sort(l)
	return slices.Compact(l)
}

// sample answers instructions that may be, of an op: all that its fields' edges and some numbers between come to.
func sample(k known) []api.Insn {
	l := []api.Insn{{Op: k.op}}
	cross := func(field string, set ...func(*api.Insn)) {
		if !k.has(field) {
			return
		}
		var wider []api.Insn
		for _, i := range l {
			for _, f := range set {
				j := i
				f(&j)
				wider = append(wider, j)
			}
		}
		l = wider
	}
	var rds, rs1s, rs2s, preds, succs, imms []func(*api.Insn)
	for _, x := range []int{0, 1, 10, 21, 31} {
		rds = append(rds, func(i *api.Insn) { i.Rd = x })
		rs1s = append(rs1s, func(i *api.Insn) { i.Rs1 = x })
		rs2s = append(rs2s, func(i *api.Insn) { i.Rs2 = x })
	}
	cross("rd", rds...)
	cross("rs1", rs1s...)
	cross("rs2", rs2s...)
	for x := range 16 {
		preds = append(preds, func(i *api.Insn) { i.Pred = x })
		succs = append(succs, func(i *api.Insn) { i.Succ = x })
	}
	cross("pred", preds...)
	cross("succ", succs...)
	for _, v := range numbersOf(k) {
		imms = append(imms, func(i *api.Insn) { i.Imm = v })
	}
	cross("imm", imms...)
	cross("aq", func(*api.Insn) {}, func(i *api.Insn) { i.Aq = true })
	cross("rl", func(*api.Insn) {}, func(i *api.Insn) { i.Rl = true })
	return l
}
