package event

import (
	"fencepost/alu"
	"fencepost/api"
)

// asked has of each kind of ask the kind of event that it makes, 0 of one that makes none.
func asked() [api.AskMark + 1]int {
	return [...]int{
		api.AskLoad:  api.EvLoad,
		api.AskStore: api.EvStore,
		api.AskLR:    api.EvLR,
		api.AskSC:    api.EvSC,
		api.AskAmo:   api.EvAmo,
		api.AskFence: api.EvFence,
		api.AskMark:  0,
	}
}

// Of answers the event that an ask makes.
func Of(hart, at int, a api.Ask, found uint64, pair int, d api.Deps) (api.Event, api.Errno) {
	e, err := made(a, found)
	if err != api.OK {
		return api.Event{}, err
	}
	e.Hart, e.At = hart, at
	f := look(e.Kind)
	if f.has(hasPair) {
		e.Pair = pair
	}
	e.Deps = kept(f, d)
	// The lists are looked at as they were handed in: kept ones are their copies.
	if err := Check(e); err != api.OK {
		return api.Event{}, err
	}
	return e, api.OK
}

// made answers what an event has of its ask, and of what was found.
func made(a api.Ask, found uint64) (api.Event, api.Errno) {
	kinds := asked()
	if !within(a.Kind, len(kinds)) || kinds[a.Kind] == 0 {
		return api.Event{}, api.ErrArg
	}
	e := api.Event{Kind: kinds[a.Kind]}
	if !Memory(e) {
		e.Pred, e.Succ = a.Pred, a.Succ
		return e, api.OK
	}
	e.Addr, e.Aq, e.Rl = a.Addr, a.Aq, a.Rl
	if Reads(e) {
		e.Load = found
	}
	if Writes(e) {
		e.Store = a.Value
	}
	if e.Kind != api.EvAmo {
		return e, api.OK
	}
	var err api.Errno
	e.Store, err = alu.Amo(a.Op, found, a.Value)
	return e, err
}

// kept answers copies of those lists that are in the set.
func kept(f fields, d api.Deps) api.Deps {
	keep := func(field fields, l []int) []int {
		if !f.has(field) {
			return nil
		}
		return append([]int(nil), l...)
	}
	return api.Deps{
		Addr: keep(hasDepsAddr, d.Addr),
		Data: keep(hasDepsData, d.Data),
		Way:  keep(hasDepsWay, d.Way),
	}
}
