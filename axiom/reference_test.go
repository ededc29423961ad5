package axiom_test

import (
	"fmt"
	"math"
	"slices"
	"strings"
	"testing"

	"fencepost/api"
	"fencepost/axiom"
	"fencepost/cand"
	"fencepost/event"
	"fencepost/ppo"
)

// What the tests hold the package against: the chapter told once more, by looking for each thing among all events.

// Events whose hart and place are told by of. All values are noughts, so that each that reads may read from any that writes there, or from none.
func load(addr uint64) api.Event             { return api.Event{Kind: api.EvLoad, Addr: addr} }
func store(addr uint64) api.Event            { return api.Event{Kind: api.EvStore, Addr: addr} }
func lr(addr uint64) api.Event               { return api.Event{Kind: api.EvLR, Addr: addr} }
func sc(addr uint64, pair int) api.Event     { return api.Event{Kind: api.EvSC, Addr: addr, Pair: pair} }
func amo(addr uint64) api.Event              { return api.Event{Kind: api.EvAmo, Addr: addr} }
func fence(pred, succ int) api.Event         { return api.Event{Kind: api.EvFence, Pred: pred, Succ: succ} }
func aq(e api.Event) api.Event               { e.Aq = true; return e }
func rl(e api.Event) api.Event               { e.Rl = true; return e }
func byAddr(e api.Event, l ...int) api.Event { e.Deps.Addr = l; return e }
func byData(e api.Event, l ...int) api.Event { e.Deps.Data = l; return e }
func byWay(e api.Event, l ...int) api.Event  { e.Deps.Way = l; return e }

// What a fence has.
const (
	w = api.FenceW
	r = api.FenceR
)

// none stands for a number where there is none.
const none = -1

// row is a hart's events.
type row []api.Event

// of answers a candidate of harts' rows: nobody reads from anyone, and the order is that of the numbers.
func of(rows ...row) api.Cand {
	var c api.Cand
	for hart, l := range rows {
		l = slices.Clone(l)
		for at := range l {
			l[at].Hart, l[at].At = hart, at
			if l[at].Kind != api.EvFence {
				c.Order = append(c.Order, len(c.From))
			}
			c.From = append(c.From, none)
		}
		c.Harts = append(c.Harts, l)
	}
	return c
}

// from answers a candidate in which a number reads from another one, and so on.
func from(c api.Cand, froms ...int) api.Cand {
	c.From = slices.Clone(c.From)
	for ; len(froms) > 0; froms = froms[2:] {
		c.From[froms[0]] = froms[1]
	}
	return c
}

// in answers a candidate in another order.
func in(c api.Cand, order ...int) api.Cand {
	c.Order = order
	return c
}

// moved answers numbers where so many stand ahead of them; none stays so.
func moved(l []int, many int) []int {
	var m []int
	for _, n := range l {
		if n != none {
			n += many
		}
		m = append(m, n)
	}
	return m
}

// up answers a candidate with a hart more, ahead of all others, which is as it should be at an address of its own; its places are dealt out among the others'. And how many numbers it has.
func up(c api.Cand) (api.Cand, int) {
	far := uint64(len(c.Harts)) << 40
	u := from(of(row{store(far), amo(far), fence(r|w, r|w), lr(far), sc(far, 3), load(far)}), 1, 0, 3, 1, 5, 4)
	many := len(u.From)
	u.First = slices.Clone(c.First)
	for _, l := range copied(c).Harts {
		for at := range l {
			l[at].Hart++
		}
		u.Harts = append(u.Harts, l)
	}
	u.From = append(u.From, moved(c.From, many)...)
	var order []int
	for _, n := range moved(c.Order, many) {
		if len(u.Order) > 0 {
			order, u.Order = append(order, u.Order[0]), u.Order[1:]
		}
		order = append(order, n)
	}
	u.Order = append(order, u.Order...)
	return u, many
}

// copied answers a candidate in new memory.
func copied(c api.Cand) api.Cand {
	c = api.Cand{First: slices.Clone(c.First), Harts: slices.Clone(c.Harts), From: slices.Clone(c.From), Order: slices.Clone(c.Order)}
	for hart, l := range c.Harts {
		c.Harts[hart] = slices.Clone(l)
		for at := range l {
			d := &c.Harts[hart][at].Deps
			*d = api.Deps{Addr: slices.Clone(d.Addr), Data: slices.Clone(d.Data), Way: slices.Clone(d.Way)}
		}
	}
	return c
}

func plainReads(e api.Event) bool  { return e.Kind == 1 || e.Kind == 3 || e.Kind == 5 }
func plainWrites(e api.Event) bool { return e.Kind == 2 || e.Kind == 4 || e.Kind == 5 }

func ok() api.Judged                   { return api.Judged{OK: true, A: none, B: none} }
func not(why int, a, b int) api.Judged { return api.Judged{Why: why, A: a, B: b} }

// plain is a candidate that may be, and its events by number.
type plain struct {
	api.Cand
	all []api.Event
}

func plainly(c api.Cand) plain {
	return plain{c, slices.Concat(c.Harts...)}
}

// at answers a number's place; of none -1, which is below all.
func (p plain) at(n int) int { return slices.Index(p.Order, n) }

// source answers which one a number should read from.
func (p plain) source(n int) int {
	e, source := p.all[n], none
	if !plainReads(e) {
		return none
	}
	// By rising places, so that the last one stays.
	for place, other := range p.Order {
		o := p.all[other]
		if plainWrites(o) && o.Addr == e.Addr && other != n && (place < p.at(n) || o.Hart == e.Hart && o.At < e.At) {
			source = other
		}
	}
	return source
}

// order, value and pair answer what each axiom alone tells.
func (p plain) order() api.Judged {
	for a := range p.all {
		for b := range p.all {
			if ppo.Rule(p.Cand, a, b) > 0 && p.at(a) >= p.at(b) {
				return not(2, a, b)
			}
		}
	}
	return ok()
}

func (p plain) value() api.Judged {
	for n := range p.all {
		if s := p.source(n); plainReads(p.all[n]) && p.From[n] != s {
			return not(3, n, s)
		}
	}
	return ok()
}

func (p plain) pair() api.Judged {
	for n, e := range p.all {
		if e.Kind != 4 {
			continue
		}
		pair := slices.IndexFunc(p.all, func(o api.Event) bool { return o.Hart == e.Hart && o.At == e.Pair })
		s := p.From[pair]
		if s != none && p.at(s) >= p.at(n) {
			return not(4, pair, s)
		}
		for place, other := range p.Order {
			o := p.all[other]
			if plainWrites(o) && o.Addr == e.Addr && o.Hart != e.Hart && place < p.at(n) && (s == none || place > p.at(s)) {
				return not(4, pair, other)
			}
		}
	}
	return ok()
}

// alone answers what each axiom alone tells.
func (p plain) alone() [3]api.Judged {
	return [...]api.Judged{p.order(), p.value(), p.pair()}
}

// judge answers what is to be said of the candidate.
func (p plain) judge() api.Judged {
	for _, j := range p.alone() {
		if !j.OK {
			return j
		}
	}
	return ok()
}

// froms answers whom a number may read from, by what it loaded.
func (p plain) froms(n int) []int {
	e := p.all[n]
	if !plainReads(e) {
		return []int{none}
	}
	var l []int
	if cand.First(p.Cand, e.Addr) == e.Load {
		l = append(l, none)
	}
	for other, o := range p.all {
		if plainWrites(o) && o.Addr == e.Addr && o.Store == e.Load && other != n {
			l = append(l, other)
		}
	}
	return l
}

// told tells a candidate in a line.
func told(c api.Cand) string {
	var b strings.Builder
	for n, e := range slices.Concat(c.Harts...) {
		fmt.Fprintf(&b, "%d: %s", n, event.Text(e))
		switch {
		case e.Kind == api.EvFence:
			fmt.Fprint(&b, " ", e.Pred, " ", e.Succ)
		case e.Kind == api.EvSC:
			fmt.Fprint(&b, " pair ", e.Pair)
		}
		if e.Aq || e.Rl {
			fmt.Fprint(&b, " aq ", e.Aq, " rl ", e.Rl)
		}
		if len(e.Deps.Addr)+len(e.Deps.Data)+len(e.Deps.Way) > 0 {
			fmt.Fprint(&b, " by ", e.Deps)
		}
		b.WriteString("; ")
	}
	fmt.Fprint(&b, "first ", c.First, " from ", c.From, " order ", c.Order)
	return b.String()
}

// holdNow holds what is to be said of a candidate.
func holdNow(t *testing.T, c api.Cand, want api.Judged) {
	t.Helper()
	if got := axiom.Judge(c); got != want {
		t.Errorf("Judge(%s) = %+v, want %+v", told(c), got, want)
	}
	if got := axiom.Ok(c); got != want.OK {
		t.Errorf("Ok(%s) = %t", told(c), got)
	}
}

// hold holds what is to be said of a candidate that may be; and the same where other harts stand ahead of it.
func hold(t *testing.T, c api.Cand, want api.Judged) {
	t.Helper()
	if err := cand.Check(c); err != api.OK {
		t.Fatalf("%s may not be: %d", told(c), err)
	}
	if got := plainly(c).judge(); got != want {
		t.Fatalf("the reference tells of %s: %+v, want %+v", told(c), got, want)
	}
	holdNow(t, c, want)
	for len(c.Harts) < api.MaxHarts {
		more, many := up(c)
		if want.A != none {
			want.A += many
		}
		if want.B != none {
			want.B += many
		}
		c = more
		holdNow(t, c, want)
	}
}

// noNumbers are numbers that no event has, of so many events.
func noNumbers(many int) []int {
	return []int{none, -2, -many - 1, many, many + 1, many + 64, 4096, 1 << 32, math.MinInt, math.MaxInt}
}

// holdSources holds the source of each number of a candidate, and of numbers that are none.
func holdSources(t *testing.T, c api.Cand, want ...int) {
	t.Helper()
	if err := cand.Check(c); err != api.OK || len(want) != len(c.From) {
		t.Fatalf("%s may not be: %d, or has not %v", told(c), err, want)
	}
	for n := range c.From {
		if got := plainly(c).source(n); got != want[n] {
			t.Fatalf("the reference tells of %d of %s: %d, want %d", n, told(c), got, want[n])
		}
		if got := axiom.Source(c, n); got != want[n] {
			t.Errorf("Source(%s, %d) = %d, want %d", told(c), n, got, want[n])
		}
	}
	holdNoSources(t, c)
}

func holdNoSources(t *testing.T, c api.Cand) {
	t.Helper()
	for _, n := range noNumbers(len(c.From)) {
		if got := axiom.Source(c, n); got != none {
			t.Errorf("Source(%s, %d) = %d", told(c), n, got)
		}
	}
}

// holdAll holds all calls of a candidate that may be against the reference, and each axiom alone.
func holdAll(t *testing.T, c api.Cand) {
	t.Helper()
	p := plainly(c)
	var sources []int
	for n := range p.all {
		sources = append(sources, p.source(n))
	}
	holdSources(t, c, sources...)
	holdNow(t, c, p.judge())
	if got, want := axiom.Alone(c), p.alone(); got != want {
		t.Errorf("each axiom alone tells of %s: %+v, want %+v", told(c), got, want)
	}
}

// dice is a row of numbers without a rule to be seen in it, always the same.
type dice uint64

func (d *dice) below(n int) int {
	*d = *d*6364136223846793005 + 1442695040888963407
	return int(uint64(*d)>>33) % n
}

func pick[T any](d *dice, l ...T) T {
	return l[d.below(len(l))]
}

// roomy answers a list with room to spare, and numbers in it that nobody may look at.
func roomy(l ...int) []int {
	return append(slices.Clone(l), 0, 1, 2, -5, 99)[:len(l)]
}

// deps answers what an event at a place may hang on: seldom on much.
func (d *dice) deps(at int, data bool) api.Deps {
	some := func() []int {
		var l []int
		for n := range at {
			if d.below(12) == 0 {
				l = append(l, n)
			}
		}
		return roomy(l...)
	}
	deps := api.Deps{Addr: some(), Way: some()}
	if data {
		deps.Data = some()
	}
	return deps
}

func (d *dice) addr() uint64  { return pick[uint64](d, 8, 8, 8, 16, 16, 1<<63+8) }
func (d *dice) value() uint64 { return pick[uint64](d, 0, 0, 1, 1<<63) }

// marked answers an event with marks, or with none.
func (d *dice) marked(e api.Event) api.Event {
	e.Aq, e.Rl = d.below(6) == 0, d.below(6) == 0
	return e
}

// row answers a hart's row of so many events at random, which loaded nothing yet.
func (d *dice) row(many int) row {
	l, pair := make(row, many, many+2), none
	for at := range l {
		a := d.addr()
		e := pick(d, load(a), load(a), store(a), store(a), d.marked(lr(a)), d.marked(lr(a)), d.marked(amo(a)), fence(d.below(16), d.below(16)))
		if pair >= 0 && d.below(2) == 0 {
			e = d.marked(sc(l[pair].Addr, pair))
			pair = none
		}
		if e.Kind != api.EvFence {
			e.Deps = d.deps(at, plainWrites(e))
		}
		if e.Kind == api.EvLR {
			pair = at
		}
		if plainWrites(e) {
			e.Store = d.value()
		}
		l[at] = e
	}
	return l
}

// weave answers memory's numbers in an order in which each hart's stand as they do in program order, but that some were swapped with the next one.
func (d *dice) weave(all []api.Event, swaps int) []int {
	left := make([][]int, api.MaxHarts)
	for n, e := range all {
		if e.Kind != api.EvFence {
			left[e.Hart] = append(left[e.Hart], n)
		}
	}
	var order []int
	for {
		left = slices.DeleteFunc(left, func(l []int) bool { return len(l) == 0 })
		if len(left) == 0 {
			break
		}
		hart := d.below(len(left))
		order, left[hart] = append(order, left[hart][0]), left[hart][1:]
	}
	for range swaps {
		if len(order) > 1 {
			at := d.below(len(order) - 1)
			order[at], order[at+1] = order[at+1], order[at]
		}
	}
	return order
}

// cand answers a candidate at random, of so many harts, of at most so many events each, that may be: each that reads reads from its source, but that some don't; few stand in Order elsewhere than program order has them.
func (d *dice) cand(harts, many int) api.Cand {
	var rows []row
	for range harts {
		rows = append(rows, d.row(d.below(many+1)))
	}
	c := of(rows...)
	for _, addr := range []uint64{0, 8, 16, 1<<63 + 8} {
		if d.below(2) == 0 {
			c.First = append(c.First, api.Cell{Addr: addr, Value: d.value()})
		}
	}
	c.Order = d.weave(slices.Concat(c.Harts...), pick(d, 0, 1, 2, 5, 40))
	p := plainly(c)
	var froms []int
	for n := range p.all {
		froms = append(froms, p.source(n))
	}
	c = found(c, froms)
	wrong := pick(d, 0, 0, 0, 1, 2, 5)
	for range wrong {
		if len(froms) > 0 {
			n := d.below(len(froms))
			froms[n] = pick(d, everyFrom(p.all, n)...)
			c = found(c, froms)
		}
	}
	c.From, c.Order = roomy(c.From...), roomy(c.Order...)
	return c
}

// everyFrom answers whom a number may read from, if it loads what that has.
func everyFrom(all []api.Event, n int) []int {
	l := []int{none}
	for other, o := range all {
		if plainReads(all[n]) && plainWrites(o) && o.Addr == all[n].Addr && other != n {
			l = append(l, other)
		}
	}
	return l
}

// found answers a candidate in which these are read from, and what they have was loaded.
func found(c api.Cand, froms []int) api.Cand {
	c = copied(c)
	c.From = slices.Clone(froms)
	all, first, n := slices.Concat(c.Harts...), map[uint64]uint64{}, 0
	for _, cell := range c.First {
		first[cell.Addr] = cell.Value
	}
	for _, l := range c.Harts {
		for at := range l {
			e := &l[at]
			if plainReads(*e) {
				e.Load = first[e.Addr]
				if froms[n] != none {
					e.Load = all[froms[n]].Store
				}
			}
			n++
		}
	}
	return c
}

func TestReferenceMakesCandidates(t *testing.T) {
	d := dice(1)
	met := map[string]int{}
	for range 3000 {
		c := d.cand(1+d.below(4), pick(&d, 2, 4, 6))
		if err := cand.Check(c); err != api.OK {
			t.Fatalf("%s may not be: %d", told(c), err)
		}
		p := plainly(c)
		met[fmt.Sprint("told ", p.judge().Why)]++
		var not []bool
		for _, j := range p.alone() {
			not = append(not, !j.OK)
		}
		met[fmt.Sprint("broken ", not)]++
		for n := range p.all {
			if plainReads(p.all[n]) {
				met[fmt.Sprint("of ", min(3, len(p.froms(n))))]++
			}
		}
	}
	if len(met) != 4+8+3 {
		t.Errorf("met alone: %v", met)
	}
	for what, many := range met {
		if many < 20 {
			t.Errorf("%s: %d", what, many)
		}
	}
}
