package inter

import (
	"maps"
	"slices"

	"fencepost/api"
	"fencepost/event"
	"fencepost/hart"
	"fencepost/run"
)

// cell is a double of memory: what it has, and where in the order that was stored, from 1 on; 0 of what was there at first.
type cell struct {
	value  uint64
	stored int
}

// seen is an event that memory saw: whose it is, its place among that hart's, and where in the order what it read was stored, as a cell tells it; 0 of one that does not read, too.
type seen struct {
	hart, at int
	from     int
}

// strand is a hart on its way through a weave, and what its run would need as picks to go the same way.
type strand struct {
	api.Hart
	api.Picks
	number int
	made   int
	// The last lr's address, and whether an sc there may still win.
	addr  uint64
	grips bool
}

// let lets go of what the last lr took, and tells whether an sc at an address could win by it.
func (s *strand) let(addr uint64) bool {
	may := s.grips && s.addr == addr
	s.grips = false
	return may
}

// loom is a weave that is being done: memory, and each hart's next turn.
type loom struct {
	image   api.Image
	first   []api.Cell
	known   map[uint64]api.Insn
	memory  map[uint64]cell
	order   []seen
	made    int
	strands []*strand
	turns   []func()
	// Whether an sc that may win does.
	wins func(s *strand) bool
}

// newLoom answers a weave ahead of its first turn.
func newLoom(m api.Image, first []api.Cell, wins func(s *strand) bool) *loom {
	l := &loom{image: m, first: first, known: map[uint64]api.Insn{}, memory: map[uint64]cell{}, wins: wins}
	for _, c := range first {
		l.memory[c.Addr] = cell{value: c.Value}
	}
	for number, h := range m.Start {
		s := &strand{Hart: h, number: number}
		l.strands = append(l.strands, s)
		l.turns = append(l.turns, func() { l.turn(s) })
	}
	return l
}

// turn does a hart's next instruction; of one that ended, nothing.
func (l *loom) turn(s *strand) {
	if s.End != api.EndNone {
		return
	}
	s.Steps++
	i, there := l.fetch(s.PC)
	if !there {
		s.Hart = hart.Fail(s.Hart, api.EndFetch)
		return
	}
	asked, _ := hart.Ask(s.Hart, i)
	found, won := l.answer(s, asked)
	s.Hart, _ = hart.Step(s.Hart, i, found, won)
}

// fetch answers what is fetched at a PC, and whether anything is. It remembers instructions, since telling a word costs far more than doing it.
func (l *loom) fetch(pc uint64) (api.Insn, bool) {
	if i, is := l.known[pc]; is {
		return i, true
	}
	i, err := run.Fetch(l.image, pc)
	if err != api.OK {
		return api.Insn{}, false
	}
	l.known[pc] = i
	return i, true
}

// answer does what a hart asks of memory, and answers what it found there, and whether an sc won.
func (l *loom) answer(s *strand, asked api.Ask) (uint64, bool) {
	var found cell
	won := false
	switch asked.Kind {
	case api.AskLoad, api.AskLR, api.AskAmo:
		found = l.memory[asked.Addr]
		s.Loads = append(s.Loads, found.value)
	case api.AskSC:
		won = s.let(asked.Addr) && l.wins(s)
		s.Wins = append(s.Wins, won)
		if !won {
			return 0, false
		}
	}
	// Which lr is its pair, and on what it hangs, does not matter here: the hart's trace tells that.
	if e, err := event.Of(s.number, s.made, asked, found.value, 0, api.Deps{}); err == api.OK {
		l.note(s, e, found.stored)
	}
	return found.value, won
}

// note notes an event, and where in the order what it read was stored.
func (l *loom) note(s *strand, e api.Event, from int) {
	s.made++
	l.made++
	if !event.Memory(e) {
		return
	}
	l.order = append(l.order, seen{hart: e.Hart, at: e.At, from: from})
	if e.Kind == api.EvLR {
		s.addr, s.grips = e.Addr, true
	}
	if event.Writes(e) {
		l.memory[e.Addr] = cell{value: e.Store, stored: len(l.order)}
		l.part(s, e.Addr)
	}
}

// part parts all other harts' lrs at an address from their scs, behind what a hart stored there.
func (l *loom) part(by *strand, addr uint64) {
	for _, s := range l.strands {
		if s != by && s.addr == addr {
			s.grips = false
		}
	}
}

// traces answers each hart's trace: its run by what it found, and by which sc won.
func (l *loom) traces() []api.Trace {
	var traces []api.Trace
	for _, s := range l.strands {
		t, _ := run.Run(l.image, s.number, s.Picks)
		traces = append(traces, t)
	}
	return traces
}

// woven answers what came of the weave so far.
func (l *loom) woven() api.Woven {
	w := api.Woven{Traces: l.traces(), Memory: l.told()}
	c := api.Cand{First: fresh(l.first), From: slices.Repeat([]int{none}, l.made)}
	var ahead []int
	many := 0
	for _, t := range w.Traces {
		ahead = append(ahead, many)
		many += len(t.Events)
		c.Harts = append(c.Harts, copied(t.Events))
	}
	for _, e := range l.order {
		c.Order = append(c.Order, ahead[e.hart]+e.at)
	}
	for place, e := range l.order {
		if e.from > 0 {
			c.From[c.Order[place]] = c.Order[e.from-1]
		}
	}
	w.Cand = c
	return w
}

// told answers what memory has now, where that is not 0.
func (l *loom) told() []api.Cell {
	var cells []api.Cell
	for _, addr := range slices.Sorted(maps.Keys(l.memory)) {
		if value := l.memory[addr].value; value != 0 {
			cells = append(cells, api.Cell{Addr: addr, Value: value})
		}
	}
	return cells
}
