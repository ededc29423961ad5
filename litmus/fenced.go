package litmus

import (
	"fencepost/api"
	"fencepost/code"
)

// Fenced answers a test with fences.
func Fenced(l api.Litmus) (api.Litmus, api.Errno) {
	if err := Check(l); err != api.OK {
		return api.Litmus{}, err
	}
	fenced := withFences(l)
	if err := Check(fenced); err != api.OK {
		return api.Litmus{}, err
	}
	return fenced, api.OK
}

// withFences answers a test that may be with a fence behind each instruction of memory.
func withFences(l api.Litmus) api.Litmus {
	fence, _ := code.Word(api.Insn{Op: api.RvFence, Pred: api.FenceR | api.FenceW, Succ: api.FenceR | api.FenceW})
	m := api.Image{Base: l.Image.Base}
	// Where each word stands then.
	var places []int
	for _, w := range l.Image.Words {
		places = append(places, len(m.Words))
		m.Words = append(m.Words, w)
		if i, err := code.Insn(w); err == api.OK && isMemory(i.Op) {
			m.Words = append(m.Words, fence)
		}
	}
	for _, h := range l.Image.Start {
		at, _ := place(l.Image, h.PC)
		h.PC = m.Base + uint64(wordBytes*places[at])
		m.Start = append(m.Start, h)
	}
	return api.Litmus{Image: m, First: fresh(l.First), Look: fresh(l.Look)}
}
