package run

import (
	"fencepost/api"
	"fencepost/hart"
)

// outcome is a word for what a step came to.
type outcome int

// All the words that there are.
const (
	goesOn    outcome = iota // it was done, and the hart goes on
	ended                    // it was done, and the hart ended by it
	lacksLoad                // it was not done: a load had no pick
	lacksWin                 // it was not done: an sc had none
)

// needs answers the number by which Needs tells why a run was over.
func (o outcome) needs() int {
	switch o {
	case lacksLoad:
		return 1
	case lacksWin:
		return 2
	}
	return 0
}

// drive does steps, at most so many, till one was not done, or the hart ended. It answers how many were done, and what the last one came to.
func drive(step func() outcome, most int) (int, outcome) {
	for done := range most {
		switch o := step(); o {
		case ended:
			return done + 1, o
		case lacksLoad, lacksWin:
			return done, o
		}
	}
	return most, goesOn
}

// did is what a step does: its instruction, what that asks, what a load finds, whether an sc wins.
type did struct {
	insn  api.Insn
	asked api.Ask
	found uint64
	won   bool
}

// makes tells whether a step makes an event.
func (d did) makes() bool {
	switch d.asked.Kind {
	case api.AskLoad, api.AskStore, api.AskLR, api.AskAmo, api.AskFence:
		return true
	}
	return d.asked.Kind == api.AskSC && d.won
}

// walk is a hart on its way by picks: all that tells where it goes, and what it did last.
type walk struct {
	reader
	picks
	grip
	api.Hart
	did
}

// begin answers a hart's walk ahead of its first step.
func begin(m api.Image, number int, p api.Picks) walk {
	return walk{reader: newReader(m), picks: newPicks(p), Hart: m.Start[number]}
}

// step does a step, if there are the picks that it takes.
func (w *walk) step() outcome {
	i, there := w.fetch(w.PC)
	if !there {
		w.Hart = hart.Fail(w.Hart, api.EndFetch)
		return ended
	}
	asked, _ := hart.Ask(w.Hart, i)
	w.did = did{insn: i, asked: asked}
	if o := w.pick(); o != goesOn {
		return o
	}
	w.Hart, _ = hart.Step(w.Hart, i, w.found, w.won)
	if w.End != api.EndNone {
		return ended
	}
	return goesOn
}

// pick takes the pick that a step needs for what it asks, if it needs one.
func (w *walk) pick() outcome {
	var is bool
	switch w.asked.Kind {
	case api.AskLoad, api.AskLR, api.AskAmo:
		if w.found, is = w.loads.eat(); !is {
			return lacksLoad
		}
	case api.AskSC:
		if w.won, is = w.wins.eat(); !is {
			return lacksWin
		}
		// Nothing is held behind an sc, even behind one that is told to lose.
		held := w.leave(w.asked.Addr)
		w.won = w.won && held
	}
	if w.asked.Kind == api.AskLR {
		w.take(w.asked.Addr)
	}
	return goesOn
}
