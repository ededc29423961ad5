package axiom

import (
	"fencepost/api"
	"fencepost/event"
	"fencepost/ppo"
)

// order is the order axiom: what is preserved is so in Order.
func (v *view) order() api.Judged {
	for _, p := range ppo.Pairs(v.Cand) {
		if a, b := p[0], p[1]; v.later(a, b) == a {
			return broken(api.WhyOrder, a, b)
		}
	}
	return kept()
}

// value is the value axiom: each that reads reads from its source.
func (v *view) value() api.Judged {
	for n, source := range v.sources() {
		if v.From[n] != source {
			return broken(api.WhyValue, n, source)
		}
	}
	return kept()
}

// pair is the pair axiom: nothing comes between what an SC's pair reads from and the SC.
func (v *view) pair() api.Judged {
	for n := range v.all {
		e := &v.all[n]
		if e.Kind != api.EvSC {
			continue
		}
		lr := n - e.At + e.Pair
		if b := v.parting(v.From[lr], n); b != none {
			return broken(api.WhyPair, lr, b)
		}
	}
	return kept()
}

// parting answers who breaks the pair axiom for an SC whose pair reads from s: s itself, or the first of another hart that writes there behind s.
func (v *view) parting(s, sc int) int {
	if v.place(s) >= v.place(sc) {
		return s
	}
	for _, n := range v.Order[v.place(s)+1 : v.place(sc)] {
		if v.all[n].Addr == v.all[sc].Addr && v.all[n].Hart != v.all[sc].Hart && event.Writes(v.all[n]) {
			return n
		}
	}
	return none
}
