package litmus

import (
	"slices"

	"fencepost/api"
	"fencepost/hart"
	"fencepost/run"
)

// deed is what an instruction of memory did in a run: whether it loaded or stored, where, and what.
type deed struct {
	hart          int
	reads, writes bool
	addr          uint64
	load, store   uint64
}

// whole is a run of a hart from its beginning on till it ends: what it did to memory, by which picks, and the hart then.
type whole struct {
	api.Hart
	api.Picks
	deeds []deed
	// The last lr's address, and whether an sc there may win.
	addr uint64
	held bool
	// What events the run has, if that was asked for.
	events []api.Event
	known  bool
}

// findRuns finds all whole runs by values that may be met, and tells whether these values are few enough.
func (t *test) findRuns() bool {
	met := []uint64{0}
	for _, c := range t.First {
		met = meet(met, c.Value)
	}
	for len(met) <= api.MaxMet {
		more := met
		t.runs = nil
		for number := range t.ways {
			runs := t.runsBy(number, met)
			more = storedBy(runs, more)
			t.runs = append(t.runs, runs)
		}
		if len(more) == len(met) {
			return true
		}
		met = more
	}
	return false
}

// meet answers values with another one; of more than there may be no more are kept.
func meet[T comparable](met []T, value T) []T {
	if len(met) > api.MaxMet || slices.Contains(met, value) {
		return met
	}
	return append(met, value)
}

// storedBy answers values with those that runs store.
func storedBy(runs []*whole, met []uint64) []uint64 {
	for _, r := range runs {
		for _, d := range r.deeds {
			if d.writes {
				met = meet(met, d.store)
			}
		}
	}
	return met
}

// runsBy answers all whole runs of a hart whose loads find these values.
func (t *test) runsBy(number int, met []uint64) []*whole {
	w := walk{image: t.Image, number: number, way: t.ways[number], met: met}
	// A step more than the way has words ends a hart that did not end on it.
	w.on(0, whole{Hart: t.Image.Start[number], Picks: api.Picks{Steps: len(w.way) + 1}})
	return w.runs
}

// walk goes along a hart's way by all picks that there are.
type walk struct {
	image  api.Image
	number int
	way    []api.Insn
	met    []uint64
	runs   []*whole
}

// on goes on with a run from a place of the way, and keeps all whole runs that it becomes.
func (w *walk) on(at int, r whole) {
	for ; at < len(w.way) && r.End == api.EndNone; at++ {
		asked, _ := hart.Ask(r.Hart, w.way[at])
		switch asked.Kind {
		case api.AskLoad, api.AskLR, api.AskAmo:
			for _, found := range w.met {
				w.on(at+1, w.loaded(at, r, asked, found))
			}
			return
		case api.AskSC:
			held := r.held && r.addr == asked.Addr
			r.held = false
			w.on(at+1, w.tried(at, r, asked, false))
			if held {
				w.on(at+1, w.tried(at, r, asked, true))
			}
			return
		case api.AskStore:
			r.does(deed{hart: w.number, writes: true, addr: asked.Addr, store: asked.Value})
		}
		r.Hart, _ = hart.Step(r.Hart, w.way[at], 0, false)
	}
	w.runs = append(w.runs, &r)
}

// loaded answers a run behind a load, lr or amo that found a value.
func (w *walk) loaded(at int, r whole, asked api.Ask, found uint64) whole {
	d := deed{hart: w.number, reads: true, addr: asked.Addr, load: found}
	switch asked.Kind {
	case api.AskLR:
		r.addr, r.held = asked.Addr, true
	case api.AskAmo:
		d.writes, d.store = true, stored(w.image, r.Hart, found)
	}
	r.does(d)
	r.Loads = append(slices.Clip(r.Loads), found)
	r.Hart, _ = hart.Step(r.Hart, w.way[at], found, false)
	return r
}

// tried answers a run behind an sc that won, or lost.
func (w *walk) tried(at int, r whole, asked api.Ask, won bool) whole {
	if won {
		r.does(deed{hart: w.number, writes: true, addr: asked.Addr, store: asked.Value})
	}
	r.Wins = append(slices.Clip(r.Wins), won)
	r.Hart, _ = hart.Step(r.Hart, w.way[at], 0, won)
	return r
}

// does notes what a run did; other runs that begin likewise have their own lists.
func (r *whole) does(d deed) {
	r.deeds = append(slices.Clip(r.deeds), d)
}

// stored answers what a hart's amo stores where it finds a value: a run of that step alone tells.
func stored(m api.Image, h api.Hart, found uint64) uint64 {
	m.Start = []api.Hart{h}
	t, _ := run.Run(m, 0, api.Picks{Loads: []uint64{found}, Steps: 1})
	return t.Events[0].Store
}
