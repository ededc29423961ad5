package hart

import (
	"fencepost/alu"
	"fencepost/api"
	"fencepost/insn"
)

const (
	insnBytes   = 4
	doubleBytes = 8

	// An ecall finds in these registers what is called, and with what.
	argRegister  = 10
	callRegister = 17
)

// end is how a hart ends. Whatever finds that an instruction can't be done panics with it.
type end struct {
	how  int
	code uint64
}

// of answers a hart, ended so; all else of it stays.
func (e end) of(h api.Hart) api.Hart {
	h.End, h.Code = e.how, e.code
	return h
}

// state is a hart on its way through an instruction that may be.
type state api.Hart

// ask answers what an instruction asks for.
func (s *state) ask(i api.Insn) api.Ask {
	switch insn.Form(i.Op) {
	case api.FormLoad, api.FormStore, api.FormLR, api.FormAmo:
		return s.access(i)
	case api.FormFence:
		return api.Ask{Kind: api.AskFence, Pred: i.Pred, Succ: i.Succ}
	case api.FormSys:
		return s.call(i.Op)
	}
	if i.Op == api.RvAddi && i.Rd == 0 && i.Imm > 0 {
		return api.Ask{Kind: api.AskMark, Op: int(i.Imm), Value: s.X[i.Rs1]}
	}
	return api.Ask{}
}

// access answers what is asked of memory.
func (s *state) access(i api.Insn) api.Ask {
	_, stores, size := insn.Memory(i.Op)
	if size != doubleBytes {
		panic(end{how: api.EndSize})
	}
	a := api.Ask{Kind: accessKind(i.Op), Addr: s.X[i.Rs1] + uint64(i.Imm), Aq: i.Aq, Rl: i.Rl}
	if a.Addr%doubleBytes != 0 {
		panic(end{how: api.EndAlign})
	}
	if stores {
		a.Value = s.X[i.Rs2]
	}
	if a.Kind == api.AskAmo {
		a.Op = i.Op
	}
	return a
}

// accessKind answers what an access of a double asks for.
func accessKind(op int) int {
	switch op {
	case api.RvLd:
		return api.AskLoad
	case api.RvSd:
		return api.AskStore
	case api.RvLrD:
		return api.AskLR
	case api.RvScD:
		return api.AskSC
	}
	return api.AskAmo
}

// call answers what an ecall or an ebreak asks of the world.
func (s *state) call(op int) api.Ask {
	arg := s.X[argRegister]
	switch {
	case op == api.RvEbreak:
		panic(end{how: api.EndBreak})
	case s.X[callRegister] == api.CallHalt:
		panic(end{how: api.EndHalt, code: arg})
	case s.X[callRegister] != api.CallOut:
		panic(end{how: api.EndCall})
	}
	return api.Ask{Kind: api.AskOut, Value: arg}
}

// do does an instruction.
func (s *state) do(i api.Insn, found uint64, won bool) {
	// What can't be asked for can't be done.
	s.ask(i)
	// Rd may be a register that is read: it is written last.
	value, next := s.value(i, found, won), s.next(i)
	s.PC = next
	s.put(i.Rd, value)
}

// put puts a number into a register; register 0 stays as it is.
func (s *state) put(x int, value uint64) {
	if x != 0 {
		s.X[x] = value
	}
}

// value answers what Rd is behind an instruction; of one that has none, 0.
func (s *state) value(i api.Insn, found uint64, won bool) uint64 {
	number := uint64(i.Imm)
	switch i.Op {
	case api.RvJal, api.RvJalr:
		return s.PC + insnBytes
	case api.RvAuipc:
		return s.PC + reckon(api.RvLui, 0, number)
	case api.RvScD:
		return lost(won)
	}
	switch insn.Form(i.Op) {
	case api.FormLoad, api.FormLR, api.FormAmo:
		return found
	case api.FormU, api.FormI, api.FormShift:
		return reckon(i.Op, s.X[i.Rs1], number)
	case api.FormR:
		return reckon(i.Op, s.X[i.Rs1], s.X[i.Rs2])
	}
	return 0
}

// reckon answers what an op answers of a and b.
func reckon(op int, a, b uint64) uint64 {
	x, _ := alu.Do(op, a, b)
	return x
}

// lost answers what an sc leaves in Rd.
func lost(won bool) uint64 {
	if won {
		return 0
	}
	return 1
}

// next answers where the hart is behind an instruction.
func (s *state) next(i api.Insn) uint64 {
	number := uint64(i.Imm)
	switch {
	case i.Op == api.RvJalr:
		return landed((s.X[i.Rs1] + number) &^ 1)
	case i.Op == api.RvJal, s.takes(i):
		return landed(s.PC + number)
	}
	return s.PC + insnBytes
}

// takes tells whether an instruction is a branch that is taken.
func (s *state) takes(i api.Insn) bool {
	is, err := alu.Takes(i.Op, s.X[i.Rs1], s.X[i.Rs2])
	return is && err == api.OK
}

// landed answers a place that was jumped to.
func landed(place uint64) uint64 {
	if place%insnBytes != 0 {
		panic(end{how: api.EndFetch})
	}
	return place
}
