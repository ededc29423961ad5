package hart_test

import (
	"iter"
	"math"
	"strconv"
	"strings"
	"testing"

	"fencepost/alu"
	"fencepost/api"
	"fencepost/hart"
	"fencepost/insn"
)

// What the tests hold the package against: the chapter told once more, from an instruction's text.

// read answers the instruction of a text, which must be one's.
func read(t *testing.T, text string) api.Insn {
	t.Helper()
	i, err := insn.Read(text)
	if err != api.OK {
		t.Fatalf("%q is no instruction's text", text)
	}
	return i
}

// regs are registers and what is in them.
type regs map[int]uint64

// at answers a hart that goes on, at pc, with noughts in all other registers.
func at(pc uint64, l regs) api.Hart {
	h := api.Hart{PC: pc}
	for x, v := range l {
		h.X[x] = v
	}
	return h
}

// neg answers the number that is x below 0.
func neg(x uint64) uint64 {
	return -x
}

// order is an instruction's text taken apart.
type order struct {
	name     string
	aq, rl   bool
	operands []string
}

func takeApart(text string) order {
	name, rest, _ := strings.Cut(text, " ")
	o := order{name: name}
	if s, is := strings.CutSuffix(o.name, ".aqrl"); is {
		o.name, o.aq, o.rl = s, true, true
	} else if s, is := strings.CutSuffix(o.name, ".aq"); is {
		o.name, o.aq = s, true
	} else if s, is := strings.CutSuffix(o.name, ".rl"); is {
		o.name, o.rl = s, true
	}
	o.operands = strings.FieldsFunc(rest, func(r rune) bool { return strings.ContainsRune(", ()", r) })
	return o
}

// register answers the number of the register that an operand names.
func (o order) register(at int) int {
	x, _ := strconv.Atoi(strings.TrimPrefix(o.operands[at], "x"))
	return x
}

// number answers the number that an operand is.
func (o order) number(at int) uint64 {
	n, _ := strconv.ParseInt(o.operands[at], 10, 64)
	return uint64(n)
}

// in answers what is in the register that an operand names.
func (o order) in(h api.Hart, at int) uint64 {
	return h.X[o.register(at)]
}

// parts answers what letters of a fence stand for.
func parts(letters string) int {
	n := 0
	for at, letter := range "wroi" {
		if strings.ContainsRune(letters, letter) {
			n += 1 << at
		}
	}
	return n
}

// behind answers h at pc with v in the register that the first operand names.
func (o order) behind(h api.Hart, pc, v uint64) api.Hart {
	h.PC = pc
	if x := o.register(0); x > 0 {
		h.X[x] = v
	}
	return h
}

// plain answers what an instruction asks of h, and the hart behind it.
func plain(h api.Hart, i api.Insn, found uint64, won bool) (api.Ask, api.Hart) {
	text, _ := insn.Text(i)
	o := takeApart(text)
	over := h
	over.PC += 4
	switch o.name {
	case "fence":
		return api.Ask{Kind: 6, Pred: parts(o.operands[0]), Succ: parts(o.operands[1])}, over
	case "ecall":
		switch h.X[17] {
		case 0:
			h.End, h.Code = 1, h.X[10]
			return api.Ask{}, h
		case 1:
			return api.Ask{Kind: 7, Value: h.X[10]}, over
		}
		h.End = 3
		return api.Ask{}, h
	case "ebreak":
		h.End = 2
		return api.Ask{}, h
	case "jal", "jalr", "beq", "bne", "blt", "bge", "bltu", "bgeu":
		return api.Ask{}, plainJump(h, o)
	case "lui":
		return api.Ask{}, o.behind(h, h.PC+4, o.number(1)*4096)
	case "auipc":
		return api.Ask{}, o.behind(h, h.PC+4, h.PC+o.number(1)*4096)
	}
	if strings.Contains(o.name, ".") || strings.Contains(" lb lh lw ld lbu lhu lwu sb sh sw sd ", " "+o.name+" ") {
		return plainAccess(h, o, found, won)
	}
	return plainReckon(h, o)
}

// plainJump answers h behind a jump or a branch.
func plainJump(h api.Hart, o order) api.Hart {
	to, then := h.PC+4, o.behind(h, h.PC+4, h.PC+4)
	switch o.name {
	case "jal":
		to = h.PC + o.number(1)
	case "jalr":
		to = (o.in(h, 2) + o.number(1)) / 2 * 2
	default:
		then = h
		if taken, _ := alu.Takes(insn.Named(o.name), o.in(h, 0), o.in(h, 1)); !taken {
			then.PC = to
			return then
		}
		to = h.PC + o.number(2)
	}
	if to%4 != 0 {
		h.End = 6
		return h
	}
	then.PC = to
	return then
}

// plainAccess answers what an access of memory asks of h, and h behind it.
func plainAccess(h api.Hart, o order, found uint64, won bool) (api.Ask, api.Hart) {
	over := h
	over.PC += 4
	var a api.Ask
	switch o.name {
	case "ld":
		a, over = api.Ask{Kind: 1, Addr: o.in(h, 2) + o.number(1)}, o.behind(h, h.PC+4, found)
	case "sd":
		a = api.Ask{Kind: 2, Addr: o.in(h, 2) + o.number(1), Value: o.in(h, 0)}
	case "lr.d":
		a, over = api.Ask{Kind: 3, Addr: o.in(h, 1), Aq: o.aq, Rl: o.rl}, o.behind(h, h.PC+4, found)
	case "sc.d":
		a, over = api.Ask{Kind: 4, Addr: o.in(h, 2), Value: o.in(h, 1), Aq: o.aq, Rl: o.rl}, o.behind(h, h.PC+4, 1)
		if won {
			over = o.behind(h, h.PC+4, 0)
		}
	default:
		if !strings.HasSuffix(o.name, ".d") {
			h.End = 5
			return api.Ask{}, h
		}
		a = api.Ask{Kind: 5, Addr: o.in(h, 2), Value: o.in(h, 1), Op: insn.Named(o.name), Aq: o.aq, Rl: o.rl}
		over = o.behind(h, h.PC+4, found)
	}
	if a.Addr&7 != 0 {
		h.End = 4
		return api.Ask{}, h
	}
	return a, over
}

// plainReckon answers what an op that reckons asks of h, and h behind it.
func plainReckon(h api.Hart, o order) (api.Ask, api.Hart) {
	a, b := o.in(h, 1), uint64(0)
	var asked api.Ask
	if strings.HasPrefix(o.operands[2], "x") {
		b = o.in(h, 2)
	} else {
		b = o.number(2)
		if o.name == "addi" && o.operands[0] == "x0" && int64(b) > 0 {
			asked = api.Ask{Kind: 8, Op: int(b), Value: a}
		}
	}
	v, err := alu.Do(insn.Named(o.name), a, b)
	if err != api.OK {
		panic("no op that reckons: " + o.name)
	}
	return asked, o.behind(h, h.PC+4, v)
}

// insns answers instructions of all ops: all that these fields come to and that may be.
func insns() []api.Insn {
	var l []api.Insn
	for op := 1; op <= 87; op++ {
		for _, i := range numbered(op) {
			for _, regs := range [][3]int{
				{0, 0, 0}, {1, 5, 6}, {5, 5, 6}, {6, 5, 6}, {0, 5, 6}, {31, 31, 31}, {10, 17, 10}, {17, 10, 17}, {7, 0, 6}, {7, 6, 0}, {2, 8, 30}, {9, 3, 3}, {4, 2, 1},
			} {
				// Not all forms have all three.
				for parts := range 8 {
					j := i
					j.Rd, j.Rs1, j.Rs2 = regs[0]*(parts&1), regs[1]*(parts>>1&1), regs[2]*(parts>>2)
					if insn.Check(j) == api.OK && (parts == 7 || !mayHaveMore(j, parts)) {
						l = append(l, j)
					}
				}
			}
		}
	}
	return l
}

// mayHaveMore tells whether another register may stand in the instruction besides those that parts tells.
func mayHaveMore(i api.Insn, parts int) bool {
	d, s, r := i, i, i
	d.Rd, s.Rs1, r.Rs2 = 1, 1, 1
	return parts&1 == 0 && insn.Check(d) == api.OK || parts&2 == 0 && insn.Check(s) == api.OK || parts&4 == 0 && insn.Check(r) == api.OK
}

// numbered answers an op's instructions by all but registers.
func numbered(op int) []api.Insn {
	var l []api.Insn
	keep := func(i api.Insn) {
		if insn.Check(i) == api.OK {
			l = append(l, i)
		}
	}
	for _, n := range []int64{
		0, 1, 2, 3, 4, 6, 8, 12, 31, 32, 63, 1024, 2047, 4092, 4094, 524287, 1048572, 1048574,
		-1, -2, -3, -4, -8, -16, -2040, -2048, -4096, -524288, -1048576,
	} {
		keep(api.Insn{Op: op, Imm: n})
	}
	for n := 1; n < 256; n += 7 {
		keep(api.Insn{Op: op, Pred: n % 16, Succ: n / 16})
	}
	for _, marks := range [][2]bool{{true, false}, {false, true}, {true, true}} {
		keep(api.Insn{Op: op, Aq: marks[0], Rl: marks[1]})
	}
	return l
}

// harts are harts that go on, with this and that in their registers.
func harts() []api.Hart {
	edges := []uint64{
		0, 1, 2, 8, 16, 24, 4096, 1 << 20, 1<<32 + 8, 1 << 63, math.MaxInt64, math.MaxUint64, neg(8), neg(2040), neg(4096), 0xffffffff80000000,
		1 << 31, math.MaxUint32, 3, 4, 5, 6, 7, 1001, 0x123456789abcdef8, 0xfedcba9876543210,
	}
	var l []api.Hart
	x := uint64(7)
	for round := range 24 {
		h := hart.New([]uint64{0, 100, 4096, neg(4), 1 << 31, 2, math.MaxUint64, 1<<63 - 4}[round%8])
		for reg := 1; reg < 32; reg++ {
			x = x*6364136223846793005 + 1442695040888963407
			h.X[reg] = edges[x>>33%uint64(len(edges))]
		}
		if round%2 == 0 {
			// More of what may be an address.
			for reg := 1; reg < 32; reg += 2 {
				h.X[reg] &^= 7
			}
		}
		h.X[17] = []uint64{0, 1, 2, 1, 0, 1, 1 << 32, math.MaxUint64}[x>>40%8]
		l = append(l, h)
	}
	return l
}

// both are all pairs of a hart and an instruction of these.
func both() iter.Seq2[api.Hart, api.Insn] {
	l := insns()
	return func(yield func(api.Hart, api.Insn) bool) {
		for _, h := range harts() {
			for _, i := range l {
				if !yield(h, i) {
					return
				}
			}
		}
	}
}

// tell answers an instruction's text.
func tell(i api.Insn) string {
	s, _ := insn.Text(i)
	return s
}
