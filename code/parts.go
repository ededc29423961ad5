package code

import (
	"fencepost/api"
	"fencepost/word"
)

const wordBits = 32

// opcode is what a word has in its lowest bits.
type opcode uint32

const (
	codeLoad     opcode = 0b0000011
	codeFence    opcode = 0b0001111
	codeImm      opcode = 0b0010011
	codeAuipc    opcode = 0b0010111
	codeImmShort opcode = 0b0011011
	codeStore    opcode = 0b0100011
	codeAtomic   opcode = 0b0101111
	codeReg      opcode = 0b0110011
	codeLui      opcode = 0b0110111
	codeRegShort opcode = 0b0111011
	codeBranch   opcode = 0b1100011
	codeJalr     opcode = 0b1100111
	codeJal      opcode = 0b1101111
	codeSystem   opcode = 0b1110011
)

const (
	opcodeBits = 7

	funct3From = 12
	funct3Bits = 3

	// The two shifts' funct3 of codeImm and codeImmShort.
	shiftLeft  = 1
	shiftRight = 5

	// The funct7 of what is told from another op by it.
	other  = 0b0100000
	muldiv = 0b0000001

	// A long shift's Imm is a bit longer, its funct6 so much shorter than a funct7.
	otherShift = other >> 1
)

// parts are what tells a word's op; top is funct7, funct6, or what else stands in the highest bits.
type parts struct {
	code   opcode
	funct3 uint32
	top    uint32
}

// split answers what tells a word's op.
func split(w uint32) parts {
	p := parts{code: opcode(word.Low(uint64(w), opcodeBits))}
	if p.hasFunct3() {
		p.funct3 = uint32(word.Part(uint64(w), funct3From, funct3Bits))
	}
	from := p.topFrom()
	p.top = uint32(word.Part(uint64(w), from, wordBits-from))
	return p
}

// bare answers the word that has these parts, and noughts else.
func (p parts) bare() uint64 {
	return uint64(p.code) | uint64(p.funct3)<<funct3From | uint64(p.top)<<p.topFrom()
}

func (p parts) hasFunct3() bool {
	switch p.code {
	case codeLui, codeAuipc, codeJal:
		return false
	}
	return true
}

// topFrom answers the lowest bit of top, which ends with the word; of an op without a top that is behind the word.
func (p parts) topFrom() int {
	shifts := p.funct3 == shiftLeft || p.funct3 == shiftRight
	switch {
	case p.code == codeSystem:
		return 20
	case p.code == codeReg, p.code == codeRegShort, p.code == codeImmShort && shifts:
		return 25
	case p.code == codeImm && shifts:
		return 26
	case p.code == codeAtomic:
		return 27
	}
	return wordBits
}

// allParts answers the parts of every op.
func allParts() map[int]parts {
	return map[int]parts{
		api.RvLui: {codeLui, 0, 0}, api.RvAuipc: {codeAuipc, 0, 0}, api.RvJal: {codeJal, 0, 0}, api.RvJalr: {codeJalr, 0, 0},
		api.RvBeq: {codeBranch, 0, 0}, api.RvBne: {codeBranch, 1, 0}, api.RvBlt: {codeBranch, 4, 0},
		api.RvBge: {codeBranch, 5, 0}, api.RvBltu: {codeBranch, 6, 0}, api.RvBgeu: {codeBranch, 7, 0},

		api.RvLb: {codeLoad, 0, 0}, api.RvLh: {codeLoad, 1, 0}, api.RvLw: {codeLoad, 2, 0}, api.RvLd: {codeLoad, 3, 0},
		api.RvLbu: {codeLoad, 4, 0}, api.RvLhu: {codeLoad, 5, 0}, api.RvLwu: {codeLoad, 6, 0},
		api.RvSb: {codeStore, 0, 0}, api.RvSh: {codeStore, 1, 0}, api.RvSw: {codeStore, 2, 0}, api.RvSd: {codeStore, 3, 0},

		api.RvAddi: {codeImm, 0, 0}, api.RvSlti: {codeImm, 2, 0}, api.RvSltiu: {codeImm, 3, 0},
		api.RvXori: {codeImm, 4, 0}, api.RvOri: {codeImm, 6, 0}, api.RvAndi: {codeImm, 7, 0},
		api.RvSlli: {codeImm, shiftLeft, 0}, api.RvSrli: {codeImm, shiftRight, 0}, api.RvSrai: {codeImm, shiftRight, otherShift},
		api.RvAddiw: {codeImmShort, 0, 0},
		api.RvSlliw: {codeImmShort, shiftLeft, 0}, api.RvSrliw: {codeImmShort, shiftRight, 0}, api.RvSraiw: {codeImmShort, shiftRight, other},

		api.RvAdd: {codeReg, 0, 0}, api.RvSub: {codeReg, 0, other}, api.RvSll: {codeReg, 1, 0}, api.RvSlt: {codeReg, 2, 0}, api.RvSltu: {codeReg, 3, 0},
		api.RvXor: {codeReg, 4, 0}, api.RvSrl: {codeReg, 5, 0}, api.RvSra: {codeReg, 5, other}, api.RvOr: {codeReg, 6, 0}, api.RvAnd: {codeReg, 7, 0},
		api.RvAddw: {codeRegShort, 0, 0}, api.RvSubw: {codeRegShort, 0, other},
		api.RvSllw: {codeRegShort, 1, 0}, api.RvSrlw: {codeRegShort, 5, 0}, api.RvSraw: {codeRegShort, 5, other},

		api.RvMul: {codeReg, 0, muldiv}, api.RvMulh: {codeReg, 1, muldiv}, api.RvMulhsu: {codeReg, 2, muldiv}, api.RvMulhu: {codeReg, 3, muldiv},
		api.RvDiv: {codeReg, 4, muldiv}, api.RvDivu: {codeReg, 5, muldiv}, api.RvRem: {codeReg, 6, muldiv}, api.RvRemu: {codeReg, 7, muldiv},
		api.RvMulw: {codeRegShort, 0, muldiv}, api.RvDivw: {codeRegShort, 4, muldiv}, api.RvDivuw: {codeRegShort, 5, muldiv},
		api.RvRemw: {codeRegShort, 6, muldiv}, api.RvRemuw: {codeRegShort, 7, muldiv},

		api.RvFence: {codeFence, 0, 0}, api.RvEcall: {codeSystem, 0, 0}, api.RvEbreak: {codeSystem, 0, 1},

		api.RvLrW: {codeAtomic, 2, 0b00010}, api.RvLrD: {codeAtomic, 3, 0b00010},
		api.RvScW: {codeAtomic, 2, 0b00011}, api.RvScD: {codeAtomic, 3, 0b00011},
		api.RvAmoswapW: {codeAtomic, 2, 0b00001}, api.RvAmoswapD: {codeAtomic, 3, 0b00001},
		api.RvAmoaddW: {codeAtomic, 2, 0b00000}, api.RvAmoaddD: {codeAtomic, 3, 0b00000},
		api.RvAmoxorW: {codeAtomic, 2, 0b00100}, api.RvAmoxorD: {codeAtomic, 3, 0b00100},
		api.RvAmoandW: {codeAtomic, 2, 0b01100}, api.RvAmoandD: {codeAtomic, 3, 0b01100},
		api.RvAmoorW: {codeAtomic, 2, 0b01000}, api.RvAmoorD: {codeAtomic, 3, 0b01000},
		api.RvAmominW: {codeAtomic, 2, 0b10000}, api.RvAmominD: {codeAtomic, 3, 0b10000},
		api.RvAmomaxW: {codeAtomic, 2, 0b10100}, api.RvAmomaxD: {codeAtomic, 3, 0b10100},
		api.RvAmominuW: {codeAtomic, 2, 0b11000}, api.RvAmominuD: {codeAtomic, 3, 0b11000},
		api.RvAmomaxuW: {codeAtomic, 2, 0b11100}, api.RvAmomaxuD: {codeAtomic, 3, 0b11100},
	}
}
