package code

import (
	"fencepost/api"
	"fencepost/word"
)

// span is n bits that stand together: in a word from bit from on, in a field's number from bit low on.
type span struct {
	from, n, low int
}

// carrier carries fields' numbers into a word or out of it, so that one list of fields tells both ways.
type carrier struct {
	bits uint64
	out  bool
}

// number carries a field whose bits are spread over spans, and answers its number.
func (c *carrier) number(v uint64, spans ...span) uint64 {
	for _, s := range spans {
		if c.out {
			v = word.Put(v, s.low, s.n, word.Part(c.bits, s.from, s.n))
		} else {
			c.bits = word.Put(c.bits, s.from, s.n, word.Part(v, s.low, s.n))
		}
	}
	return v
}

// signed carries a number of n bits, of which the highest one counts less.
func (c *carrier) signed(v int64, n int, spans ...span) int64 {
	return word.Sign(c.number(uint64(v), spans...), n)
}

func (c *carrier) register(x, from int) int {
	return int(c.number(uint64(x), span{from, 5, 0}))
}

// between carries a fence's parts.
func (c *carrier) between(set, from int) int {
	return int(c.number(uint64(set), span{from, 4, 0}))
}

func (c *carrier) mark(is bool, at int) bool {
	var v uint64
	if is {
		v = 1
	}
	return c.number(v, span{at, 1, 0}) == 1
}

// field carries one field of an instruction; out of a word it is carried into a nought.
type field func(c *carrier, i *api.Insn)

func rd(c *carrier, i *api.Insn)  { i.Rd = c.register(i.Rd, 7) }
func rs1(c *carrier, i *api.Insn) { i.Rs1 = c.register(i.Rs1, 15) }
func rs2(c *carrier, i *api.Insn) { i.Rs2 = c.register(i.Rs2, 20) }

func immI(c *carrier, i *api.Insn)     { i.Imm = c.signed(i.Imm, 12, span{20, 12, 0}) }
func immStore(c *carrier, i *api.Insn) { i.Imm = c.signed(i.Imm, 12, span{25, 7, 5}, span{7, 5, 0}) }
func immU(c *carrier, i *api.Insn)     { i.Imm = c.signed(i.Imm, 20, span{12, 20, 0}) }

func immB(c *carrier, i *api.Insn) {
	i.Imm = c.signed(i.Imm, 13, span{31, 1, 12}, span{25, 6, 5}, span{8, 4, 1}, span{7, 1, 11})
}

func immJ(c *carrier, i *api.Insn) {
	i.Imm = c.signed(i.Imm, 21, span{31, 1, 20}, span{21, 10, 1}, span{20, 1, 11}, span{12, 8, 12})
}

// immShift carries a short shift's number, too: the sixth bit of that is 0, and so is the funct7's lowest bit, in whose place it stands.
func immShift(c *carrier, i *api.Insn) { i.Imm = int64(c.number(uint64(i.Imm), span{20, 6, 0})) }

func pred(c *carrier, i *api.Insn) { i.Pred = c.between(i.Pred, 24) }
func succ(c *carrier, i *api.Insn) { i.Succ = c.between(i.Succ, 20) }

func aq(c *carrier, i *api.Insn) { i.Aq = c.mark(i.Aq, 26) }
func rl(c *carrier, i *api.Insn) { i.Rl = c.mark(i.Rl, 25) }

// fields lists a form's fields.
func fields(form int) []field {
	switch form {
	case api.FormU:
		return []field{rd, immU}
	case api.FormJ:
		return []field{rd, immJ}
	case api.FormI, api.FormLoad:
		return []field{rd, rs1, immI}
	case api.FormStore:
		return []field{rs1, rs2, immStore}
	case api.FormB:
		return []field{rs1, rs2, immB}
	case api.FormShift:
		return []field{rd, rs1, immShift}
	case api.FormR:
		return []field{rd, rs1, rs2}
	case api.FormFence:
		return []field{pred, succ}
	case api.FormLR:
		return []field{rd, rs1, aq, rl}
	case api.FormAmo:
		return []field{rd, rs1, rs2, aq, rl}
	}
	return nil
}
