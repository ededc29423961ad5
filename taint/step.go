package taint

import (
	"fencepost/api"
	"fencepost/insn"
)

// none stands for the event of an instruction that made none.
const none = -1

// Step answers the taint behind an instruction, and on what the instruction hung. The event is the one that it made, or none.
func Step(t api.Taint, i api.Insn, event int) (api.Taint, api.Deps, api.Errno) {
	if Check(t) != api.OK || insn.Check(i) != api.OK || event < none {
		return api.Taint{}, api.Deps{}, api.ErrArg
	}
	return behind(t, i, event), hung(t, i), api.OK
}

// hung answers on what an instruction hangs.
func hung(t api.Taint, i api.Insn) api.Deps {
	d := api.Deps{Way: fresh(t.Way)}
	loads, stores, _ := insn.Memory(i.Op)
	if loads || stores {
		d.Addr = read(t, i.Rs1)
	}
	if stores {
		d.Data = read(t, i.Rs2)
	}
	return d
}

// behind answers the taint behind an instruction.
func behind(t api.Taint, i api.Insn, event int) api.Taint {
	after := api.Taint{Way: way(t, i)}
	for x, l := range t.X {
		after.X[x] = fresh(l)
	}
	if x := insn.Writes(i); x != 0 {
		after.X[x] = written(t, i, event)
	}
	return after
}

// written answers on what the register that an instruction writes hangs then.
func written(t api.Taint, i api.Insn, event int) []int {
	switch i.Op {
	case api.RvJal, api.RvJalr, api.RvLui, api.RvAuipc:
		return nil
	}
	if loads, stores, _ := insn.Memory(i.Op); loads || stores {
		return made(event)
	}
	return read(t, insn.Reads(i)...)
}

// made answers an event as a list.
func made(event int) []int {
	if event == none {
		return nil
	}
	return []int{event}
}

// way answers on what the way hangs behind an instruction.
func way(t api.Taint, i api.Insn) []int {
	switch {
	case insn.Form(i.Op) == api.FormB:
		return merge(t.Way, read(t, i.Rs1, i.Rs2))
	case i.Op == api.RvJalr:
		return merge(t.Way, read(t, i.Rs1))
	}
	return fresh(t.Way)
}

// read answers a new list of all that registers hang on.
func read(t api.Taint, registers ...int) []int {
	var all []int
	for _, x := range registers {
		all = merge(all, t.X[x])
	}
	return all
}
