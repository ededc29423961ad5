package insn

import (
	"fencepost/api"
)

// row is what there is to know of an op beside its number.
type row struct {
	name string
	form int
	size int // bytes of memory that it loads or stores
}

// rows counts the ops, and 0, which is none.
const rows = api.RvAmomaxuD + 1

func table() [rows]row {
	return [rows]row{
		api.RvLui: {"lui", api.FormU, 0}, api.RvAuipc: {"auipc", api.FormU, 0},
		api.RvJal: {"jal", api.FormJ, 0}, api.RvJalr: {"jalr", api.FormI, 0},
		api.RvBeq: {"beq", api.FormB, 0}, api.RvBne: {"bne", api.FormB, 0}, api.RvBlt: {"blt", api.FormB, 0},
		api.RvBge: {"bge", api.FormB, 0}, api.RvBltu: {"bltu", api.FormB, 0}, api.RvBgeu: {"bgeu", api.FormB, 0},

		api.RvLb: {"lb", api.FormLoad, 1}, api.RvLh: {"lh", api.FormLoad, 2}, api.RvLw: {"lw", api.FormLoad, 4}, api.RvLd: {"ld", api.FormLoad, 8},
		api.RvLbu: {"lbu", api.FormLoad, 1}, api.RvLhu: {"lhu", api.FormLoad, 2}, api.RvLwu: {"lwu", api.FormLoad, 4},
		api.RvSb: {"sb", api.FormStore, 1}, api.RvSh: {"sh", api.FormStore, 2}, api.RvSw: {"sw", api.FormStore, 4}, api.RvSd: {"sd", api.FormStore, 8},

		api.RvAddi: {"addi", api.FormI, 0}, api.RvSlti: {"slti", api.FormI, 0}, api.RvSltiu: {"sltiu", api.FormI, 0},
		api.RvXori: {"xori", api.FormI, 0}, api.RvOri: {"ori", api.FormI, 0}, api.RvAndi: {"andi", api.FormI, 0},
		api.RvSlli: {"slli", api.FormShift, 0}, api.RvSrli: {"srli", api.FormShift, 0}, api.RvSrai: {"srai", api.FormShift, 0},
		api.RvAddiw: {"addiw", api.FormI, 0},
		api.RvSlliw: {"slliw", api.FormShift, 0}, api.RvSrliw: {"srliw", api.FormShift, 0}, api.RvSraiw: {"sraiw", api.FormShift, 0},

		api.RvAdd: {"add", api.FormR, 0}, api.RvSub: {"sub", api.FormR, 0},
		api.RvSll: {"sll", api.FormR, 0}, api.RvSlt: {"slt", api.FormR, 0}, api.RvSltu: {"sltu", api.FormR, 0}, api.RvXor: {"xor", api.FormR, 0},
		api.RvSrl: {"srl", api.FormR, 0}, api.RvSra: {"sra", api.FormR, 0}, api.RvOr: {"or", api.FormR, 0}, api.RvAnd: {"and", api.FormR, 0},
		api.RvAddw: {"addw", api.FormR, 0}, api.RvSubw: {"subw", api.FormR, 0},
		api.RvSllw: {"sllw", api.FormR, 0}, api.RvSrlw: {"srlw", api.FormR, 0}, api.RvSraw: {"sraw", api.FormR, 0},

		api.RvMul: {"mul", api.FormR, 0}, api.RvMulh: {"mulh", api.FormR, 0}, api.RvMulhsu: {"mulhsu", api.FormR, 0}, api.RvMulhu: {"mulhu", api.FormR, 0},
		api.RvDiv: {"div", api.FormR, 0}, api.RvDivu: {"divu", api.FormR, 0}, api.RvRem: {"rem", api.FormR, 0}, api.RvRemu: {"remu", api.FormR, 0},
		api.RvMulw: {"mulw", api.FormR, 0}, api.RvDivw: {"divw", api.FormR, 0}, api.RvDivuw: {"divuw", api.FormR, 0},
		api.RvRemw: {"remw", api.FormR, 0}, api.RvRemuw: {"remuw", api.FormR, 0},

		api.RvFence: {"fence", api.FormFence, 0}, api.RvEcall: {"ecall", api.FormSys, 0}, api.RvEbreak: {"ebreak", api.FormSys, 0},

		api.RvLrW: {"lr.w", api.FormLR, 4}, api.RvLrD: {"lr.d", api.FormLR, 8},
		api.RvScW: {"sc.w", api.FormAmo, 4}, api.RvScD: {"sc.d", api.FormAmo, 8},
		api.RvAmoswapW: {"amoswap.w", api.FormAmo, 4}, api.RvAmoswapD: {"amoswap.d", api.FormAmo, 8},
		api.RvAmoaddW: {"amoadd.w", api.FormAmo, 4}, api.RvAmoaddD: {"amoadd.d", api.FormAmo, 8},
		api.RvAmoxorW: {"amoxor.w", api.FormAmo, 4}, api.RvAmoxorD: {"amoxor.d", api.FormAmo, 8},
		api.RvAmoandW: {"amoand.w", api.FormAmo, 4}, api.RvAmoandD: {"amoand.d", api.FormAmo, 8},
		api.RvAmoorW: {"amoor.w", api.FormAmo, 4}, api.RvAmoorD: {"amoor.d", api.FormAmo, 8},
		api.RvAmominW: {"amomin.w", api.FormAmo, 4}, api.RvAmominD: {"amomin.d", api.FormAmo, 8},
		api.RvAmomaxW: {"amomax.w", api.FormAmo, 4}, api.RvAmomaxD: {"amomax.d", api.FormAmo, 8},
		api.RvAmominuW: {"amominu.w", api.FormAmo, 4}, api.RvAmominuD: {"amominu.d", api.FormAmo, 8},
		api.RvAmomaxuW: {"amomaxu.w", api.FormAmo, 4}, api.RvAmomaxuD: {"amomaxu.d", api.FormAmo, 8},
	}
}

// look answers an op's row, an empty one of none.
func look(op int) row {
	if op < 0 || op >= rows {
		return row{}
	}
	return table()[op]
}

// shape tells how an op's text goes on behind its name, and so which fields it has.
// Letters stand for fields: d, 1, 2 for Rd, Rs1, Rs2, i for Imm, m for Aq and Rl, p, s for Pred, Succ; other bytes stand for themselves.
func shape(op, form int) string {
	if op == api.RvJalr {
		// It has a load's text, with the fields of its own form.
		form = api.FormLoad
	}
	shapes := [...]string{
		api.FormU:     " d, i",
		api.FormJ:     " d, i",
		api.FormI:     " d, 1, i",
		api.FormLoad:  " d, i(1)",
		api.FormStore: " 2, i(1)",
		api.FormB:     " 1, 2, i",
		api.FormShift: " d, 1, i",
		api.FormR:     " d, 1, 2",
		api.FormFence: " p, s",
		api.FormSys:   "",
		api.FormLR:    "m d, (1)",
		api.FormAmo:   "m d, 2, (1)",
	}
	return shapes[form]
}
