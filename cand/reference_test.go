package cand_test

import (
	"fmt"
	"math"
	"slices"
	"testing"

	"fencepost/api"
	"fencepost/cand"
	"fencepost/event"
)

// What the tests hold the package against: the chapter told once more, by looking for each thing among all events.

// Events whose hart and place are told by of.
func load(addr, found uint64) api.Event {
	return api.Event{Kind: api.EvLoad, Addr: addr, Load: found}
}
func store(addr, stores uint64) api.Event {
	return api.Event{Kind: api.EvStore, Addr: addr, Store: stores}
}
func lr(addr, found uint64) api.Event {
	return api.Event{Kind: api.EvLR, Addr: addr, Load: found, Aq: true}
}
func sc(addr, stores uint64, pair int) api.Event {
	return api.Event{Kind: api.EvSC, Addr: addr, Store: stores, Pair: pair, Rl: true}
}
func amo(addr, found, stores uint64) api.Event {
	return api.Event{Kind: api.EvAmo, Addr: addr, Load: found, Store: stores}
}
func fence() api.Event { return api.Event{Kind: api.EvFence, Pred: 3, Succ: 3} }

// row is a hart's events.
type row []api.Event

// of answers rows with each event's hart and place in it.
func of(rows ...row) [][]api.Event {
	var harts [][]api.Event
	for hart, l := range rows {
		l = slices.Clone(l)
		for at := range l {
			l[at].Hart, l[at].At = hart, at
		}
		harts = append(harts, l)
	}
	return harts
}

// at answers cells: an address, its value, and so on.
func at(l ...uint64) []api.Cell {
	var cells []api.Cell
	for ; len(l) > 0; l = l[2:] {
		cells = append(cells, api.Cell{Addr: l[0], Value: l[1]})
	}
	return cells
}

// place is where an event is: its hart, and its place there.
type place struct{ hart, at int }

// plainPlaces answers where the event of each number is.
func plainPlaces(c api.Cand) []place {
	var l []place
	for hart, events := range c.Harts {
		for at := range events {
			l = append(l, place{hart, at})
		}
	}
	return l
}

// plainAll answers the event of each number.
func plainAll(c api.Cand) []api.Event {
	var l []api.Event
	for _, p := range plainPlaces(c) {
		l = append(l, c.Harts[p.hart][p.at])
	}
	return l
}

func plainReads(e api.Event) bool  { return e.Kind == 1 || e.Kind == 3 || e.Kind == 5 }
func plainWrites(e api.Event) bool { return e.Kind == 2 || e.Kind == 4 || e.Kind == 5 }

// plainFirst answers what memory had at an address at first.
func plainFirst(c api.Cand, addr uint64) uint64 {
	for _, cell := range c.First {
		if cell.Addr == addr {
			return cell.Value
		}
	}
	return 0
}

// plainFroms answers all that From of a number may be.
func plainFroms(c api.Cand, all []api.Event, n int) []int {
	e := all[n]
	if !plainReads(e) {
		return []int{-1}
	}
	var l []int
	if plainFirst(c, e.Addr) == e.Load {
		l = append(l, -1)
	}
	for other, w := range all {
		if plainWrites(w) && w.Addr == e.Addr && w.Store == e.Load && other != n {
			l = append(l, other)
		}
	}
	return l
}

// plainMemory answers the numbers of all memory's events.
func plainMemory(all []api.Event) []int {
	var l []int
	for n, e := range all {
		if e.Kind >= 1 && e.Kind <= 5 {
			l = append(l, n)
		}
	}
	return l
}

// plainCheck tells whether a candidate may be.
func plainCheck(c api.Cand) bool {
	if len(c.Harts) < 1 || len(c.Harts) > 8 {
		return false
	}
	for n, cell := range c.First {
		if cell.Addr&7 != 0 || slices.ContainsFunc(c.First[:n], func(ahead api.Cell) bool { return ahead.Addr >= cell.Addr }) {
			return false
		}
	}
	for hart, l := range c.Harts {
		if event.Row(hart, l) != api.OK {
			return false
		}
	}
	all := plainAll(c)
	if len(all) > 4096 || len(c.From) != len(all) {
		return false
	}
	for n, from := range c.From {
		if !slices.Contains(plainFroms(c, all, n), from) {
			return false
		}
	}
	return slices.Equal(slices.Sorted(slices.Values(c.Order)), plainMemory(all))
}

// plainLast answers what memory has at an address at the end.
func plainLast(c api.Cand, all []api.Event, addr uint64) uint64 {
	for _, n := range slices.Backward(c.Order) {
		if e := all[n]; plainWrites(e) && e.Addr == addr {
			return e.Store
		}
	}
	return plainFirst(c, addr)
}

// plainMemoryThen answers what memory has at the end.
func plainMemoryThen(c api.Cand) []api.Cell {
	all := plainAll(c)
	var addrs []uint64
	for _, e := range all {
		addrs = append(addrs, e.Addr)
	}
	for _, cell := range c.First {
		addrs = append(addrs, cell.Addr)
	}
	slices.Sort(addrs)
	var l []api.Cell
	for _, addr := range slices.Compact(addrs) {
		if v := plainLast(c, all, addr); v != 0 {
			l = append(l, api.Cell{Addr: addr, Value: v})
		}
	}
	return l
}

// told tells all that a value has; a nil list as an empty one.
func told(v any) string {
	return fmt.Sprintf("%+v", v)
}

// holdNone holds each call to answer that a candidate may not be.
func holdNone(t *testing.T, c api.Cand) {
	t.Helper()
	if err := cand.Check(c); err != api.ErrArg {
		t.Errorf("Check(%+v) = %d", c, err)
	}
	for _, p := range []place{{0, 0}, {1, 0}, {0, 1}, {-1, 0}, {0, -1}, {9, 9}} {
		if n, err := cand.Number(c, p.hart, p.at); n != 0 || err != api.ErrArg {
			t.Errorf("Number(%+v, %d, %d) = %d, %d", c, p.hart, p.at, n, err)
		}
	}
	if all, places, last := cand.All(c), cand.Places(c), cand.Last(c); len(all)+len(places)+len(last) > 0 {
		t.Errorf("of %+v: %v, %v, %v", c, all, places, last)
	}
	for _, addr := range []uint64{0, 8, 16, 24, 4096} {
		if v := cand.First(c, addr); v != 0 {
			t.Errorf("First(%+v, %d) = %d", c, addr, v)
		}
	}
	if !cand.Same(c, c) {
		t.Errorf("%+v is not the same as itself", c)
	}
}

// holdAll holds each call of a candidate that may be against the reference.
func holdAll(t *testing.T, c api.Cand) {
	t.Helper()
	if err := cand.Check(c); err != api.OK {
		t.Errorf("Check(%+v) = %d", c, err)
		return
	}
	if got, want := told(cand.All(c)), told(plainAll(c)); got != want {
		t.Errorf("All(%+v) = %s, want %s", c, got, want)
	}
	holdNumbers(t, c)
	holdPlaces(t, c)
	for _, cell := range append(at(0, 0, 1, 0, 8, 0, 12, 0, 4096, 0, 1<<63, 0, math.MaxUint64, 0), c.First...) {
		for _, addr := range []uint64{cell.Addr, cell.Addr + 8, cell.Addr - 8, cell.Addr + 1} {
			if got, want := cand.First(c, addr), plainFirst(c, addr); got != want {
				t.Errorf("First(%+v, %d) = %d, want %d", c, addr, got, want)
			}
		}
	}
	if got, want := told(cand.Last(c)), told(plainMemoryThen(c)); got != want {
		t.Errorf("Last(%+v) = %s, want %s", c, got, want)
	}
	if !cand.Same(c, c) {
		t.Errorf("%+v is not the same as itself", c)
	}
}

// holdNumbers holds the numbers of all events, and of some that are not there.
func holdNumbers(t *testing.T, c api.Cand) {
	t.Helper()
	hold := func(p place, want int, wantErr api.Errno) {
		t.Helper()
		if n, err := cand.Number(c, p.hart, p.at); n != want || err != wantErr {
			t.Errorf("Number(%+v, %d, %d) = %d, %d, want %d, %d", c, p.hart, p.at, n, err, want, wantErr)
		}
	}
	for n, p := range plainPlaces(c) {
		hold(p, n, api.OK)
	}
	for hart, l := range c.Harts {
		for _, at := range []int{-1, -len(l), len(l), len(l) + 1, math.MinInt, math.MaxInt, 1 << 32} {
			if at != 0 {
				hold(place{hart, at}, 0, api.ErrNone)
			}
		}
	}
	for _, hart := range []int{-1, -len(c.Harts), len(c.Harts), len(c.Harts) + 1, math.MinInt, math.MaxInt, 1 << 32} {
		for _, at := range []int{0, 1, -1} {
			hold(place{hart, at}, 0, api.ErrNone)
		}
	}
}

// holdPlaces holds the place of each number.
func holdPlaces(t *testing.T, c api.Cand) {
	t.Helper()
	var want []int
	for n := range c.From {
		want = append(want, slices.Index(c.Order, n))
	}
	if got := cand.Places(c); !slices.Equal(got, want) {
		t.Errorf("Places(%+v) = %v, want %v", c, got, want)
	}
}

// hold holds all calls against the reference: of a candidate that may be, or may not be.
func hold(t *testing.T, c api.Cand, may bool) {
	t.Helper()
	if plainCheck(c) != may {
		t.Fatalf("the reference tells of %+v: %t", c, !may)
	}
	if may {
		holdAll(t, c)
		return
	}
	holdNone(t, c)
}

// dice is a row of numbers without a rule to be seen in it, always the same.
type dice uint64

func (d *dice) below(n int) int {
	*d = *d*6364136223846793005 + 1442695040888963407
	return int(uint64(*d)>>33) % n
}

func pick[T any](d *dice, l ...T) T {
	return l[d.below(len(l))]
}

// shuffled answers a list's numbers in another order, with room to spare.
func (d *dice) shuffled(l []int) []int {
	l = roomy(l...)
	for n := range l {
		other := d.below(n + 1)
		l[n], l[other] = l[other], l[n]
	}
	return l
}

// roomy answers a list with room to spare, and numbers in it that nobody may look at.
func roomy(l ...int) []int {
	return append(slices.Clone(l), 3, -5, 99)[:len(l)]
}

// deps answers what an event at a place may hang on.
func (d *dice) deps(at int, data bool) api.Deps {
	some := func() []int {
		var l []int
		for n := range at {
			if d.below(3) == 0 {
				l = append(l, n)
			}
		}
		return roomy(l...)
	}
	deps := api.Deps{Addr: some(), Way: some()}
	if data {
		deps.Data = some()
	}
	return deps
}

func (d *dice) addr() uint64  { return pick[uint64](d, 0, 8, 16, 16, 16, 4096, math.MaxUint64-7) }
func (d *dice) value() uint64 { return pick[uint64](d, 0, 0, 1, 2, 2, 1<<63) }

// row answers a hart's row of so many events at random, whose loads found nothing yet.
func (d *dice) row(hart, many int) []api.Event {
	pair, held := 0, false
	l := make([]api.Event, many, many+2)
	for at := range l {
		e := pick(d, load(d.addr(), 0), store(d.addr(), d.value()), lr(d.addr(), 0), amo(d.addr(), 0, d.value()), fence())
		if held && d.below(2) == 0 {
			e = sc(l[pair].Addr, d.value(), pair)
		}
		if e.Kind != api.EvFence {
			e.Deps = d.deps(at, plainWrites(e))
		}
		e.Hart, e.At = hart, at
		l[at] = e
		if e.Kind == api.EvLR {
			pair, held = at, true
		}
		held = held && e.Kind != api.EvSC
	}
	return l
}

// cand answers a candidate at random that may be.
func (d *dice) cand() api.Cand {
	var c api.Cand
	for _, addr := range []uint64{0, 8, 16, 4096, 1 << 63, math.MaxUint64 - 7} {
		if d.below(3) == 0 {
			c.First = append(c.First, api.Cell{Addr: addr, Value: d.value()})
		}
	}
	for hart := range 1 + d.below(8) {
		c.Harts = append(c.Harts, d.row(hart, pick(d, 0, 1, 1, 2, 3, 5, 8)))
	}
	return d.finish(c)
}

// finish gives a candidate who reads from whom, what is found, and an order.
func (d *dice) finish(c api.Cand) api.Cand {
	all := plainAll(c)
	for n, p := range plainPlaces(c) {
		from := -1
		if e := &c.Harts[p.hart][p.at]; plainReads(*e) {
			var l []int
			for other, w := range all {
				if plainWrites(w) && w.Addr == e.Addr && other != n {
					l = append(l, other)
				}
			}
			e.Load = plainFirst(c, e.Addr)
			if len(l) > 0 && d.below(4) > 0 {
				from = pick(d, l...)
				e.Load = all[from].Store
			}
		}
		c.From = append(c.From, from)
	}
	c.Order = d.shuffled(plainMemory(all))
	return c
}

// copied answers a candidate in new memory.
func copied(c api.Cand) api.Cand {
	o := api.Cand{First: slices.Clone(c.First), From: slices.Clone(c.From), Order: slices.Clone(c.Order)}
	for _, l := range c.Harts {
		o.Harts = append(o.Harts, slices.Clone(l))
		for at := range l {
			deps := &o.Harts[len(o.Harts)-1][at].Deps
			*deps = api.Deps{Addr: slices.Clone(deps.Addr), Data: slices.Clone(deps.Data), Way: slices.Clone(deps.Way)}
		}
	}
	return o
}

func TestReferenceMakesCandidates(t *testing.T) {
	d := dice(1)
	met := map[string]int{}
	for range 2000 {
		c := d.cand()
		if !plainCheck(c) {
			t.Fatalf("%+v may not be", c)
		}
		met[fmt.Sprint("harts ", len(c.Harts))]++
		met[fmt.Sprint("cells ", min(len(c.First), 3))]++
		all := plainAll(c)
		for n, e := range all {
			met[fmt.Sprint("kind ", e.Kind)]++
			if plainReads(e) {
				met[fmt.Sprint("first ", c.From[n] < 0)]++
				met[fmt.Sprint("froms ", min(len(plainFroms(c, all, n)), 3))]++
			}
		}
	}
	if len(met) != 8+4+6+2+3 {
		t.Errorf("met alone: %v", met)
	}
	for what, many := range met {
		if many < 100 {
			t.Errorf("%s: %d", what, many)
		}
	}
}
