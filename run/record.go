package run

import (
	"fencepost/api"
	"fencepost/event"
	"fencepost/insn"
	"fencepost/taint"
)

// none stands for the event of a step that made none.
const none = -1

// run is a walk of which a trace is kept.
type run struct {
	walk
	hangs
	api.Trace
	number int
	// The place of the last lr, which is the pair of an sc that wins.
	pair int
}

// step does a step of the walk, and tells the trace of it.
func (r *run) step() outcome {
	o := r.walk.step()
	// A step by which the hart ends asks for nothing.
	if o == goesOn {
		r.note()
	}
	return o
}

// note puts what the last step did into the trace.
func (r *run) note() {
	switch r.asked.Kind {
	case api.AskOut:
		r.Outs = append(r.Outs, r.asked.Value)
	case api.AskMark:
		r.Marks = append(r.Marks, api.Mark{Kind: r.asked.Op, Value: r.asked.Value, At: len(r.Events)})
	}
	if !r.makes() {
		r.follow(r.insn, none)
		return
	}
	at := len(r.Events)
	deps := r.follow(r.insn, at)
	e, _ := event.Of(r.number, at, r.asked, r.found, r.pair, deps)
	r.Events = append(r.Events, e)
	if e.Kind == api.EvLR {
		r.pair = at
	}
}

// trace answers the trace behind so many steps.
func (r *run) trace(steps int) api.Trace {
	t := r.Trace
	t.End, t.Steps = r.Hart, steps
	return t
}

// hangs is on what registers and the way hang so far.
type hangs api.Taint

// follow goes behind an instruction that made an event, or none, and answers on what it hung.
func (h *hangs) follow(i api.Insn, event int) api.Deps {
	// What it does not read does not matter to it: left out, it need not be copied.
	read := api.Taint{Way: h.Way}
	for _, x := range insn.Reads(i) {
		read.X[x] = h.X[x]
	}
	after, deps, _ := taint.Step(read, i, event)
	if x := insn.Writes(i); x != 0 {
		h.X[x] = after.X[x]
	}
	h.Way = after.Way
	return deps
}
