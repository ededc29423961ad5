package inter_test

import (
	"fmt"
	"slices"
	"strings"
	"testing"

	"fencepost/api"
	"fencepost/cand"
	"fencepost/event"
)

// Candidates, by hand and at random.

// Events whose hart and place are told by of.
func load(addr, found uint64) api.Event {
	return api.Event{Kind: api.EvLoad, Addr: addr, Load: found}
}
func store(addr, stores uint64) api.Event {
	return api.Event{Kind: api.EvStore, Addr: addr, Store: stores}
}
func lr(addr, found uint64) api.Event { return api.Event{Kind: api.EvLR, Addr: addr, Load: found} }
func sc(addr, stores uint64, pair int) api.Event {
	return api.Event{Kind: api.EvSC, Addr: addr, Store: stores, Pair: pair}
}
func amo(addr, found, stores uint64) api.Event {
	return api.Event{Kind: api.EvAmo, Addr: addr, Load: found, Store: stores}
}
func fence() api.Event { return api.Event{Kind: api.EvFence, Pred: 3, Succ: 3} }
func hangs(e api.Event, addr, data, way []int) api.Event {
	e.Deps = api.Deps{Addr: addr, Data: data, Way: way}
	return e
}

// row is a hart's events.
type row []api.Event

// of answers a candidate of harts' rows: nobody reads from anyone, and the order is that of the numbers.
func of(rows ...row) api.Cand {
	var c api.Cand
	for hart, l := range rows {
		l = slices.Clone(l)
		for at := range l {
			l[at].Hart, l[at].At = hart, at
			if l[at].Kind != api.EvFence {
				c.Order = append(c.Order, len(c.From))
			}
			c.From = append(c.From, none)
		}
		c.Harts = append(c.Harts, l)
	}
	return c
}

// from answers a candidate in which a number reads from another one, and so on.
func from(c api.Cand, froms ...int) api.Cand {
	c.From = slices.Clone(c.From)
	for ; len(froms) > 0; froms = froms[2:] {
		c.From[froms[0]] = froms[1]
	}
	return c
}

// in answers a candidate in another order.
func in(c api.Cand, order ...int) api.Cand {
	c.Order = order
	return c
}

// with answers a candidate where memory has these at first.
func with(c api.Cand, first ...uint64) api.Cand {
	c.First = at(first...)
	return c
}

// copied answers a candidate in new memory.
func copied(c api.Cand) api.Cand {
	c = api.Cand{First: slices.Clone(c.First), Harts: slices.Clone(c.Harts), From: slices.Clone(c.From), Order: slices.Clone(c.Order)}
	for hart, l := range c.Harts {
		c.Harts[hart] = slices.Clone(l)
		for at := range l {
			d := &c.Harts[hart][at].Deps
			*d = api.Deps{Addr: slices.Clone(d.Addr), Data: slices.Clone(d.Data), Way: slices.Clone(d.Way)}
		}
	}
	return c
}

// tell tells a candidate in a line.
func tell(c api.Cand) string {
	var b strings.Builder
	for n, e := range events(c) {
		fmt.Fprintf(&b, "%d: %s", n, event.Text(e))
		switch {
		case e.Kind == api.EvFence:
			fmt.Fprint(&b, " ", e.Pred, " ", e.Succ)
		case e.Kind == api.EvSC:
			fmt.Fprint(&b, " pair ", e.Pair)
		}
		fmt.Fprint(&b, " ", e.Aq, " ", e.Rl, " by ", e.Deps, "; ")
	}
	fmt.Fprint(&b, "harts ", len(c.Harts), " first ", c.First, " from ", c.From, " order ", c.Order)
	return b.String()
}

// may holds that a candidate may be.
func may(t *testing.T, c api.Cand) api.Cand {
	t.Helper()
	if err := cand.Check(c); err != api.OK {
		t.Fatalf("%s may not be: %d", tell(c), err)
	}
	return c
}

// badCands answers candidates that may not be, one for each reason; all else of them is plain.
func badCands() map[string]api.Cand {
	good := func() api.Cand {
		return with(from(of(row{store(8, 1), lr(16, 0), sc(16, 2, 1), fence()}, row{load(8, 1), amo(16, 2, 3)}), 4, 0, 5, 2), 24, 7)
	}
	l := map[string]api.Cand{"nothing": {}, "no harts": {Harts: [][]api.Event{}}}
	for name, spoil := range map[string]func(c *api.Cand){
		"nine harts":               func(c *api.Cand) { c.Harts = append(c.Harts, make([][]api.Event, 7)...) },
		"First not at a double":    func(c *api.Cand) { c.First[0].Addr = 28 },
		"First twice":              func(c *api.Cand) { c.First = at(24, 7, 24, 7) },
		"First falls":              func(c *api.Cand) { c.First = at(32, 7, 24, 7) },
		"an event without a kind":  func(c *api.Cand) { c.Harts[0][0].Kind = 0 },
		"an event of another hart": func(c *api.Cand) { c.Harts[1][0].Hart = 0 },
		"an event elsewhere":       func(c *api.Cand) { c.Harts[1][0].At = 1 },
		"an event that may not be": func(c *api.Cand) { c.Harts[0][0].Load = 1 },
		"deps behind":              func(c *api.Cand) { c.Harts[0][0].Deps.Addr = on(0) },
		"deps that fall":           func(c *api.Cand) { c.Harts[0][2].Deps.Data = on(1, 0) },
		"no pair":                  func(c *api.Cand) { c.Harts[0][2].Pair = 0 },
		"a pair elsewhere":         func(c *api.Cand) { c.Harts[0][2].Addr = 8 },
		"From is short":            func(c *api.Cand) { c.From = c.From[:5] },
		"From is long":             func(c *api.Cand) { c.From = append(c.From, -1) },
		"From of a store":          func(c *api.Cand) { c.From[0] = 0 },
		"From is none's":           func(c *api.Cand) { c.From[4] = 6 },
		"From is below":            func(c *api.Cand) { c.From[1] = -2 },
		"From is itself":           func(c *api.Cand) { c.From[5] = 5 },
		"From stored otherwise":    func(c *api.Cand) { c.Harts[1][0].Load = 2 },
		"From elsewhere":           func(c *api.Cand) { c.From[4] = 2 },
		"loaded what was not":      func(c *api.Cand) { c.Harts[0][1].Load = 9 },
		"Order is short":           func(c *api.Cand) { c.Order = c.Order[:4] },
		"Order has one twice":      func(c *api.Cand) { c.Order[4] = 4 },
		"Order has a fence":        func(c *api.Cand) { c.Order = append(c.Order, 3) },
		"Order has one twice more": func(c *api.Cand) { c.Order = append(c.Order, 5) },
		"Order has none's":         func(c *api.Cand) { c.Order[4] = 6 },
		"Order has one below":      func(c *api.Cand) { c.Order[0] = -1 },
		"too many events": func(c *api.Cand) {
			*c = of(slices.Repeat(row{fence()}, api.MaxEvents), row{fence()})
		},
	} {
		c := good()
		spoil(&c)
		l[name] = c
	}
	l["good"] = good()
	return l
}

// roomy answers a list with room to spare, and numbers in it that nobody may look at.
func roomy(l ...int) []int {
	return append(slices.Clone(l), 0, 1, 2, -5, 99)[:len(l)]
}

// deps answers what an event at a place may hang on.
func (d *dice) deps(at int, data bool) api.Deps {
	some := func() []int {
		var l []int
		for n := range at {
			if d.below(5) == 0 {
				l = append(l, n)
			}
		}
		return roomy(l...)
	}
	deps := api.Deps{Addr: some(), Way: some()}
	if data {
		deps.Data = some()
	}
	return deps
}

// row answers a hart's row of so many events at random, which loaded nothing yet.
func (d *dice) row(many, fences int) row {
	addr := func() uint64 { return pick[uint64](d, 8, 8, 8, 16, 16, 24, 1<<63+8) }
	value := func() uint64 { return pick[uint64](d, 0, 0, 1, 2, 1<<63) }
	l, pair := make(row, many, many+2), none
	for at := range l {
		a := addr()
		e := pick(d, load(a, 0), load(a, 0), store(a, value()), store(a, value()), lr(a, 0), lr(a, 0), amo(a, 0, value()))
		if pair != none && d.below(2) == 0 {
			e = sc(l[pair].Addr, value(), pair)
			pair = none
		}
		if d.below(6) < fences {
			e = api.Event{Kind: api.EvFence, Pred: pick(d, 3, 3, d.below(16)), Succ: pick(d, 3, 3, d.below(16))}
		}
		switch {
		case e.Kind == api.EvLR:
			pair = at
			fallthrough
		case e.Kind == api.EvSC, e.Kind == api.EvAmo:
			e.Aq, e.Rl = d.below(3) == 0, d.below(3) == 0
		}
		if e.Kind != api.EvFence {
			e.Deps = d.deps(at, plainWrites(e))
		}
		l[at] = e
	}
	return l
}

// order answers memory's numbers in an order in which each hart's stand as they do in program order, but that some were swapped with the next one.
func (d *dice) order(all []api.Event, swaps int) []int {
	left := make([][]int, api.MaxHarts)
	for n, e := range all {
		if e.Kind != api.EvFence {
			left[e.Hart] = append(left[e.Hart], n)
		}
	}
	var order []int
	for {
		left = slices.DeleteFunc(left, func(l []int) bool { return len(l) == 0 })
		if len(left) == 0 {
			break
		}
		hart := d.below(len(left))
		order, left[hart] = append(order, left[hart][0]), left[hart][1:]
	}
	for range swaps {
		if len(order) > 1 {
			at := d.below(len(order) - 1)
			order[at], order[at+1] = order[at+1], order[at]
		}
	}
	return order
}

// found fills in what each loaded by whom it reads from, as who tells it of an event's number and place.
func (d *dice) found(c *api.Cand, who func(n, place int) int) {
	all := events(*c)
	for place, n := range c.Order {
		e := &c.Harts[all[n].Hart][all[n].At]
		if !plainReads(*e) {
			continue
		}
		c.From[n] = who(n, place)
		e.Load = plainFirst(c.First, e.Addr)
		if c.From[n] != none {
			e.Load = all[c.From[n]].Store
		}
	}
}

// cand answers a candidate at random that may be, of so many harts, of at most so many events each: each that reads reads from the last one ahead of it, but that few don't; few stand in Order elsewhere than program order has them. So many of six events are fences.
func (d *dice) cand(harts, many, fences int) api.Cand {
	var rows []row
	for range harts {
		rows = append(rows, d.row(d.below(many+1), fences))
	}
	c := of(rows...)
	for _, addr := range []uint64{0, 8, 16, 24, 1<<63 + 8} {
		if d.below(2) == 0 {
			c.First = append(c.First, api.Cell{Addr: addr, Value: pick[uint64](d, 0, 1, 2)})
		}
	}
	all := events(c)
	c.Order = d.order(all, pick(d, 0, 0, 1, 2, 40))
	wrong := pick(d, 0, 0, 0, 1, 3)
	d.found(&c, func(n, place int) int {
		if d.below(6) < wrong {
			l := []int{none}
			for other, o := range all {
				if plainWrites(o) && o.Addr == all[n].Addr && other != n {
					l = append(l, other)
				}
			}
			return pick(d, l...)
		}
		for _, other := range slices.Backward(c.Order[:place]) {
			if plainWrites(all[other]) && all[other].Addr == all[n].Addr {
				return other
			}
		}
		return none
	})
	c.From, c.Order = roomy(c.From...), roomy(c.Order...)
	return c
}

func TestCandidatesAtRandom(t *testing.T) {
	d := dice(4)
	met := map[string]int{}
	for range 3000 {
		c := may(t, d.cand(1+d.below(4), pick(&d, 2, 4, 6), 1))
		met[fmt.Sprint("plain ", plainPlain(c))]++
		for _, e := range events(c) {
			met[fmt.Sprint("event ", e.Kind)]++
			met["hangs"] += len(e.Deps.Addr) + len(e.Deps.Data) + len(e.Deps.Way)
		}
	}
	for _, name := range strings.Split("plain true,plain false,event 1,event 2,event 3,event 4,event 5,event 6,hangs", ",") {
		if met[name] < 400 {
			t.Errorf("%s: %d", name, met[name])
		}
	}
	for name, c := range badCands() {
		if err := cand.Check(c); (err == api.OK) != (name == "good") {
			t.Errorf("%s: %d", name, err)
		}
	}
}
