package taint_test

import (
	"iter"
	"math/bits"
	"slices"
	"strconv"
	"strings"
	"testing"

	"fencepost/api"
	"fencepost/insn"
)

// What the tests hold the package against: the chapter told once more, from an instruction's text, with a bit for each event.

// set is events from 0 to 63, a bit each.
type set uint64

// of answers the set of these events.
func of(events ...int) set {
	var s set
	for _, event := range events {
		s |= 1 << event
	}
	return s
}

// list answers a set's events, rising.
func (s set) list() []int {
	l := make([]int, 0, bits.OnesCount64(uint64(s)))
	for ; s != 0; s &= s - 1 {
		l = append(l, bits.TrailingZeros64(uint64(s)))
	}
	return l
}

// sets are a taint's lists as sets.
type sets struct {
	x   [32]set
	way set
}

// taint answers the taint of these sets; each list has room to spare, with numbers in it that nobody may look at.
func (s sets) taint() api.Taint {
	var t api.Taint
	for x := range t.X {
		t.X[x] = roomy(s.x[x].list())
	}
	t.Way = roomy(s.way.list())
	return t
}

// roomy answers a list with room to spare, and numbers in it.
func roomy(l []int) []int {
	return append(slices.Clone(l), 60, -5, 61)[:len(l)]
}

// hold tells whether a taint is of these sets.
func (s sets) hold(t api.Taint) bool {
	for x := range t.X {
		if !slices.Equal(t.X[x], s.x[x].list()) {
			return false
		}
	}
	return slices.Equal(t.Way, s.way.list())
}

// hangs are an instruction's address, data and way as sets.
type hangs struct {
	addr, data, way set
}

// hold tells whether deps are of these sets.
func (h hangs) hold(d api.Deps) bool {
	return slices.Equal(d.Addr, h.addr.list()) && slices.Equal(d.Data, h.data.list()) && slices.Equal(d.Way, h.way.list())
}

// words answers an instruction's text taken apart: its name, without marks, and its operands.
func words(i api.Insn) (string, []string) {
	text, _ := insn.Text(i)
	l := strings.FieldsFunc(text, func(r rune) bool { return strings.ContainsRune(" ,()", r) })
	name, _, _ := strings.Cut(l[0], ".")
	return name, l[1:]
}

// register answers the number of the register that an operand is, if it is one.
func register(operand string) (int, bool) {
	digits, is := strings.CutPrefix(operand, "x")
	x, _ := strconv.Atoi(digits)
	return x, is
}

// plain answers what hangs behind an instruction, and on what it hangs.
func plain(s sets, i api.Insn, event int) (sets, hangs) {
	name, operands := words(i)
	h, then, made := hangs{way: s.way}, s, set(0)
	if event >= 0 {
		made = of(event)
	}
	on := func(at int) set {
		if x, is := register(operands[at]); is {
			return s.x[x]
		}
		return 0
	}
	write := func(to set) {
		if x, _ := register(operands[0]); x > 0 {
			then.x[x] = to
		}
	}
	switch name {
	case "lb", "lh", "lw", "ld", "lbu", "lhu", "lwu":
		h.addr = on(2)
		write(made)
	case "sb", "sh", "sw", "sd":
		h.addr, h.data = on(2), on(0)
	case "lr":
		h.addr = on(1)
		write(made)
	case "sc", "amoswap", "amoadd", "amoxor", "amoand", "amoor", "amomin", "amomax", "amominu", "amomaxu":
		h.addr, h.data = on(2), on(1)
		write(made)
	case "beq", "bne", "blt", "bge", "bltu", "bgeu":
		then.way |= on(0) | on(1)
	case "jalr":
		then.way |= on(2)
		write(0)
	case "jal", "lui", "auipc":
		write(0)
	case "fence", "ecall", "ebreak":
	default:
		write(on(1) | on(2))
	}
	return then, h
}

// read answers the instruction of a text, which must be one's.
func read(t *testing.T, text string) api.Insn {
	t.Helper()
	i, err := insn.Read(text)
	if err != api.OK {
		t.Fatalf("%q is no instruction's text", text)
	}
	return i
}

// tell answers an instruction's text.
func tell(i api.Insn) string {
	s, _ := insn.Text(i)
	return s
}

// insns answers instructions of all ops: all that these fields come to and that may be.
func insns() []api.Insn {
	met := map[api.Insn]bool{}
	var l []api.Insn
	keep := func(i api.Insn) {
		if insn.Check(i) == api.OK && !met[i] {
			met[i] = true
			l = append(l, i)
		}
	}
	for op := 1; op <= 87; op++ {
		for _, r := range [][3]int{
			{0, 0, 0}, {1, 5, 6}, {5, 5, 6}, {6, 5, 6}, {0, 5, 6}, {7, 5, 5}, {5, 5, 5}, {31, 31, 31}, {10, 17, 10}, {17, 10, 17}, {7, 0, 6}, {7, 6, 0}, {2, 8, 30}, {9, 3, 3}, {4, 2, 1},
		} {
			// Not all forms have all three.
			for parts := range 8 {
				i := api.Insn{Op: op, Rd: r[0] * (parts & 1), Rs1: r[1] * (parts >> 1 & 1), Rs2: r[2] * (parts >> 2)}
				keep(i)
			}
		}
		for _, n := range []int64{8, 2, -16} {
			keep(api.Insn{Op: op, Rd: 7, Rs1: 6, Imm: n})
			keep(api.Insn{Op: op, Rs1: 5, Rs2: 6, Imm: n})
			keep(api.Insn{Op: op, Rd: 7, Imm: n})
		}
		for _, marks := range [][2]bool{{true, false}, {false, true}, {true, true}} {
			keep(api.Insn{Op: op, Rd: 7, Rs1: 5, Rs2: 6, Aq: marks[0], Rl: marks[1]})
			keep(api.Insn{Op: op, Rd: 7, Rs1: 5, Aq: marks[0], Rl: marks[1]})
		}
		keep(api.Insn{Op: op, Pred: 3, Succ: 1})
		keep(api.Insn{Op: op, Pred: 15, Succ: 15})
	}
	return l
}

// dice is a row of numbers without a rule to be seen in it, always the same.
type dice uint64

func (d *dice) next() uint64 {
	*d = *d*6364136223846793005 + 1442695040888963407
	return uint64(*d) >> 24
}

// few answers a set of few events, all of them below 40.
func (d *dice) few() set {
	var s set
	for range d.next() % 5 {
		s |= of(int(d.next() % 40))
	}
	return s
}

// tainted answers sets with this and that in all of them.
func tainted() []sets {
	l := []sets{{}}
	d := dice(5)
	for range 6 {
		var s sets
		for x := 1; x < 32; x++ {
			s.x[x] = d.few()
		}
		s.way = d.few()
		l = append(l, s)
	}
	// Each register hangs on one event, the way on another one: what is taken from where can be told.
	var apart sets
	for x := 1; x < 32; x++ {
		apart.x[x] = of(x)
	}
	apart.way = of(0)
	return append(l, apart)
}

// all are all three of sets, an instruction, and an event of these.
func all() iter.Seq2[sets, made] {
	l := insns()
	return func(yield func(sets, made) bool) {
		for _, s := range tainted() {
			for _, i := range l {
				for _, event := range []int{-1, 0, 20} {
					if !yield(s, made{i, event}) {
						return
					}
				}
			}
		}
	}
}

// made is an instruction and the event that it made.
type made struct {
	insn  api.Insn
	event int
}
