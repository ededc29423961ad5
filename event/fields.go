package event

import (
	"fencepost/api"
)

// fields is a set of what an event may have, a bit for each.
type fields uint16

const (
	hasHart fields = 1 << iota
	hasAt
	hasKind
	hasAddr
	hasLoad
	hasStore
	hasAq
	hasRl
	hasPred
	hasSucc
	hasPair
	hasDepsAddr
	hasDepsData
	hasDepsWay

	allFields = iota
)

// What several kinds have.
const (
	always = hasHart | hasAt | hasKind
	access = always | hasAddr | hasDepsAddr | hasDepsWay
	stored = hasStore | hasDepsData
	marks  = hasAq | hasRl
)

// table has of each kind what its events have.
func table() [api.EvFence + 1]fields {
	return [...]fields{
		api.EvLoad:  access | hasLoad,
		api.EvStore: access | stored,
		api.EvLR:    access | hasLoad | marks,
		api.EvSC:    access | stored | marks | hasPair,
		api.EvAmo:   access | hasLoad | stored | marks,
		api.EvFence: always | hasPred | hasSucc,
	}
}

// look answers what events of a kind have: of a kind that there is none of, nothing.
func look(kind int) fields {
	t := table()
	if !within(kind, len(t)) {
		return 0
	}
	return t[kind]
}

// has tells whether a field is in the set.
func (f fields) has(field fields) bool {
	return f&field != 0
}

// hold tells whether an event has noughts in all that is not in the set.
func (f fields) hold(e api.Event) bool {
	for at, x := range numbers(e) {
		if x != 0 && !f.has(1<<at) {
			return false
		}
	}
	return true
}

// numbers answers what an event has as numbers, in the order of the fields' bits; of a list, how long it is.
func numbers(e api.Event) [allFields]uint64 {
	return [...]uint64{
		uint64(e.Hart), uint64(e.At), uint64(e.Kind),
		e.Addr, e.Load, e.Store, bit(e.Aq), bit(e.Rl),
		uint64(e.Pred), uint64(e.Succ), uint64(e.Pair),
		uint64(len(e.Deps.Addr)), uint64(len(e.Deps.Data)), uint64(len(e.Deps.Way)),
	}
}

func bit(is bool) uint64 {
	if is {
		return 1
	}
	return 0
}

// within tells whether a number is one of the first so many, from 0 on.
func within(x, many int) bool {
	return 0 <= x && x < many
}
