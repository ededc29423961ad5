package litmus

import (
	"fencepost/api"
	"fencepost/code"
	"fencepost/insn"
)

// findWays finds each hart's way, and tells whether all are tiny.
func (t *test) findWays() bool {
	many := 0
	for _, h := range t.Image.Start {
		at, _ := place(t.Image, h.PC)
		way, is := wayOf(t.Image.Words[at:])
		if !is {
			return false
		}
		many += len(movesOf(way))
		t.ways = append(t.ways, way)
	}
	return many <= api.MaxTiny
}

// wayOf answers the way along words: up to an ebreak, or where there is no instruction; and whether it is one of a tiny test.
func wayOf(words []uint32) ([]api.Insn, bool) {
	var way []api.Insn
	for _, w := range words {
		i, err := code.Insn(w)
		if err != api.OK || i.Op == api.RvEbreak {
			break
		}
		if len(way) == api.MaxDepth || !isTiny(i.Op) {
			return nil, false
		}
		way = append(way, i)
	}
	return way, true
}

// isTiny tells whether a tiny test may have an op on its ways.
func isTiny(op int) bool {
	switch op {
	case api.RvJal, api.RvJalr, api.RvAuipc, api.RvEcall:
		return false
	}
	const doubleBytes = 8
	_, _, size := insn.Memory(op)
	return insn.Form(op) != api.FormB && (size == 0 || size == doubleBytes)
}

// isMemory tells whether an op loads, or stores.
func isMemory(op int) bool {
	loads, stores, _ := insn.Memory(op)
	return loads || stores
}

// movesOf answers where on a way the instructions of memory stand.
func movesOf(way []api.Insn) []int {
	var places []int
	for at, i := range way {
		if isMemory(i.Op) {
			places = append(places, at)
		}
	}
	return places
}
