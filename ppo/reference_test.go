package ppo_test

import (
	"math"
	"slices"
	"testing"

	"fencepost/api"
	"fencepost/cand"
	"fencepost/ppo"
)

// What the tests hold the package against: the chapter told once more, by looking for each thing among all events.

// Events whose hart and place are told by of. All values are noughts, so that each that reads may read from any that writes there, or from none.
func load(addr uint64) api.Event             { return api.Event{Kind: api.EvLoad, Addr: addr} }
func store(addr uint64) api.Event            { return api.Event{Kind: api.EvStore, Addr: addr} }
func lr(addr uint64) api.Event               { return api.Event{Kind: api.EvLR, Addr: addr} }
func sc(addr uint64, pair int) api.Event     { return api.Event{Kind: api.EvSC, Addr: addr, Pair: pair} }
func amo(addr uint64) api.Event              { return api.Event{Kind: api.EvAmo, Addr: addr} }
func fence(pred, succ int) api.Event         { return api.Event{Kind: api.EvFence, Pred: pred, Succ: succ} }
func aq(e api.Event) api.Event               { e.Aq = true; return e }
func rl(e api.Event) api.Event               { e.Rl = true; return e }
func byAddr(e api.Event, l ...int) api.Event { e.Deps.Addr = l; return e }
func byData(e api.Event, l ...int) api.Event { e.Deps.Data = l; return e }
func byWay(e api.Event, l ...int) api.Event  { e.Deps.Way = l; return e }

// What a fence has.
const (
	w = api.FenceW
	r = api.FenceR
	o = api.FenceO
	i = api.FenceI
)

// rules is how many rules there are.
const rules = 13

// row is a hart's events.
type row []api.Event

// of answers a candidate of harts' rows: nobody reads from anyone, and the order is that of the numbers.
func of(rows ...row) api.Cand {
	var c api.Cand
	for hart, l := range rows {
		l = slices.Clone(l)
		for at := range l {
			l[at].Hart, l[at].At = hart, at
			if l[at].Kind != api.EvFence {
				c.Order = append(c.Order, len(c.From))
			}
			c.From = append(c.From, -1)
		}
		c.Harts = append(c.Harts, l)
	}
	return c
}

// from answers a candidate in which a number reads from another one, and so on.
func from(c api.Cand, froms ...int) api.Cand {
	c.From = slices.Clone(c.From)
	for ; len(froms) > 0; froms = froms[2:] {
		c.From[froms[0]] = froms[1]
	}
	return c
}

// put answers a candidate with a fence more, in hart's row ahead of the place at, and the number that each number has then.
func put(c api.Cand, hart, at int, f api.Event) (api.Cand, []int) {
	n := at
	for _, l := range c.Harts[:hart] {
		n += len(l)
	}
	var now []int
	for old := range c.From {
		now = append(now, behind(old, n))
	}
	c = copied(c)
	f.Hart, f.At = hart, at
	l := c.Harts[hart]
	for place := range l {
		e := &l[place]
		e.At, e.Deps = behind(e.At, at), api.Deps{Addr: moved(e.Deps.Addr, at), Data: moved(e.Deps.Data, at), Way: moved(e.Deps.Way, at)}
		if e.Kind == api.EvSC {
			e.Pair = behind(e.Pair, at)
		}
	}
	c.Harts[hart] = slices.Insert(l, at, f)
	c.Order = moved(c.Order, n)
	c.From = slices.Insert(moved(c.From, n), n, -1)
	return c, now
}

// behind answers a number where another one was put in.
func behind(n, in int) int {
	if n >= in {
		return n + 1
	}
	return n
}

func moved(l []int, in int) []int {
	var m []int
	for _, n := range l {
		m = append(m, behind(n, in))
	}
	return m
}

// copied answers a candidate in new memory.
func copied(c api.Cand) api.Cand {
	c = api.Cand{First: slices.Clone(c.First), Harts: slices.Clone(c.Harts), From: slices.Clone(c.From), Order: slices.Clone(c.Order)}
	for hart, l := range c.Harts {
		c.Harts[hart] = slices.Clone(l)
		for at := range l {
			d := &c.Harts[hart][at].Deps
			*d = api.Deps{Addr: slices.Clone(d.Addr), Data: slices.Clone(d.Data), Way: slices.Clone(d.Way)}
		}
	}
	return c
}

func plainReads(e api.Event) bool  { return e.Kind == 1 || e.Kind == 3 || e.Kind == 5 }
func plainWrites(e api.Event) bool { return e.Kind == 2 || e.Kind == 4 || e.Kind == 5 }

// plainSide tells whether a fence's letters name what an event does.
func plainSide(letters int, e api.Event) bool {
	return letters/2%2 == 1 && plainReads(e) || letters%2 == 1 && plainWrites(e)
}

// plain is a candidate's events, and who reads from whom.
type plain struct {
	all  []api.Event
	from []int
}

func plainly(c api.Cand) plain {
	return plain{slices.Concat(c.Harts...), c.From}
}

// ahead tells whether both are memory's, and a stands ahead of b.
func (p plain) ahead(a, b int) bool {
	return min(a, b) >= 0 && max(a, b) < len(p.all) &&
		p.all[a].Hart == p.all[b].Hart && p.all[a].At < p.all[b].At && p.all[a].Kind < 6 && p.all[b].Kind < 6
}

// holds tells whether a rule holds of two numbers.
func (p plain) holds(a, b, rule int) bool {
	if !p.ahead(a, b) {
		return false
	}
	x, y := p.all[a], p.all[b]
	between := func(is func(n int, e api.Event) bool) bool {
		for n, e := range p.all {
			if e.Hart == x.Hart && x.At < e.At && e.At < y.At && is(n, e) {
				return true
			}
		}
		return false
	}
	has := func(l []int) bool { return slices.Contains(l, x.At) }
	switch rule {
	case 1:
		return plainWrites(y) && x.Addr == y.Addr
	case 2:
		return plainReads(x) && plainReads(y) && x.Addr == y.Addr && p.from[a] != p.from[b] &&
			!between(func(_ int, e api.Event) bool { return plainWrites(e) && e.Addr == x.Addr })
	case 3:
		return (x.Kind == 4 || x.Kind == 5) && plainReads(y) && p.from[b] == a
	case 4:
		return between(func(_ int, e api.Event) bool { return e.Kind == 6 && plainSide(e.Pred, x) && plainSide(e.Succ, y) })
	case 5:
		return x.Aq
	case 6:
		return y.Rl
	case 7:
		return (x.Aq || x.Rl) && (y.Aq || y.Rl)
	case 8:
		return y.Kind == 4 && y.Pair == x.At
	case 9:
		return has(y.Deps.Addr)
	case 10:
		return has(y.Deps.Data)
	case 11:
		return plainWrites(y) && has(y.Deps.Way)
	case 12:
		return plainReads(y) && between(func(n int, e api.Event) bool {
			return plainWrites(e) && (has(e.Deps.Addr) || has(e.Deps.Data)) && p.from[b] == n
		})
	case 13:
		return plainWrites(y) && between(func(_ int, e api.Event) bool { return e.Kind < 6 && has(e.Deps.Addr) })
	}
	return false
}

// rules answers all rules that hold of two numbers, rising.
func (p plain) rules(a, b int) []int {
	var l []int
	for rule := 1; rule <= rules; rule++ {
		if p.holds(a, b, rule) {
			l = append(l, rule)
		}
	}
	return l
}

// pairs answers all pairs of numbers that are preserved.
func (p plain) pairs() [][2]int {
	var l [][2]int
	for a := range p.all {
		for b := range p.all {
			if len(p.rules(a, b)) > 0 {
				l = append(l, [2]int{a, b})
			}
		}
	}
	return l
}

// whole answers of each two numbers whether one leads to the other one: over none between, then over number 0 too, over 1 too, and so on.
func (p plain) whole() [][]bool {
	leads := make([][]bool, len(p.all))
	for a := range leads {
		leads[a] = make([]bool, len(p.all))
	}
	for _, pair := range p.pairs() {
		leads[pair[0]][pair[1]] = true
	}
	for over := range leads {
		for a := range leads {
			for b := range leads {
				leads[a][b] = leads[a][b] || leads[a][over] && leads[over][b]
			}
		}
	}
	return leads
}

// full tells whether of each hart each of memory's leads to the next one.
func (p plain) full() bool {
	leads := p.whole()
	for a := range p.all {
		for b := range p.all {
			next := !slices.ContainsFunc(p.all, func(e api.Event) bool {
				return e.Kind < 6 && e.Hart == p.all[a].Hart && p.all[a].At < e.At && e.At < p.all[b].At
			})
			if p.ahead(a, b) && next && !leads[a][b] {
				return false
			}
		}
	}
	return true
}

// noNumbers are numbers that no event has, of so many events.
func noNumbers(many int) []int {
	return []int{-1, -2, -many - 1, many, many + 1, many + 64, 4096, 1 << 32, math.MinInt, math.MaxInt}
}

// noRules are rules that there are none of.
func noRules() []int {
	return []int{0, 14, 15, -1, -2, -13, 1 << 32, 1<<32 + 1, math.MinInt, math.MinInt + 1, math.MaxInt}
}

// holdRules holds that of two numbers just these rules hold, rising.
func holdRules(t *testing.T, c api.Cand, a, b int, want ...int) {
	t.Helper()
	first := 0
	if len(want) > 0 {
		first = want[0]
	}
	if got := ppo.Rule(c, a, b); got != first {
		t.Errorf("Rule(%+v, %d, %d) = %d, want %d", c, a, b, got, first)
	}
	for rule := 1; rule <= rules; rule++ {
		if got := ppo.Holds(c, a, b, rule); got != slices.Contains(want, rule) {
			t.Errorf("Holds(%+v, %d, %d, %d) = %t", c, a, b, rule, got)
		}
	}
	for _, rule := range noRules() {
		if ppo.Holds(c, a, b, rule) {
			t.Errorf("Holds(%+v, %d, %d, %d)", c, a, b, rule)
		}
	}
}

// hold holds all calls of a candidate that may be against the reference.
func hold(t *testing.T, c api.Cand) {
	t.Helper()
	if err := cand.Check(c); err != api.OK {
		t.Fatalf("%+v may not be: %d", c, err)
	}
	p := plainly(c)
	if got, want := ppo.Pairs(c), p.pairs(); !slices.Equal(got, want) {
		t.Errorf("Pairs(%+v) = %v, want %v", c, got, want)
	}
	if got := ppo.Full(c); got != p.full() {
		t.Errorf("Full(%+v) = %t", c, got)
	}
	leads := p.whole()
	for a := range c.From {
		for b := range c.From {
			holdRules(t, c, a, b, p.rules(a, b)...)
			if got := ppo.Whole(c, a, b); got != leads[a][b] {
				t.Errorf("Whole(%+v, %d, %d) = %t", c, a, b, got)
			}
		}
	}
}

// holdApart holds that two numbers have nothing to do with one another.
func holdApart(t *testing.T, c api.Cand, a, b int) {
	t.Helper()
	holdRules(t, c, a, b)
	if ppo.Whole(c, a, b) {
		t.Errorf("Whole(%+v, %d, %d)", c, a, b)
	}
}

// dice is a row of numbers without a rule to be seen in it, always the same.
type dice uint64

func (d *dice) below(n int) int {
	*d = *d*6364136223846793005 + 1442695040888963407
	return int(uint64(*d)>>33) % n
}

func pick[T any](d *dice, l ...T) T {
	return l[d.below(len(l))]
}

// roomy answers a list with room to spare, and numbers in it that nobody may look at.
func roomy(l ...int) []int {
	return append(slices.Clone(l), 0, 1, 2, -5, 99)[:len(l)]
}

// deps answers what an event at a place may hang on: seldom on much.
func (d *dice) deps(at int, data bool) api.Deps {
	some := func() []int {
		var l []int
		often := pick(d, 2, 8, 30)
		for n := range at {
			if d.below(often) == 0 {
				l = append(l, n)
			}
		}
		return roomy(l...)
	}
	deps := api.Deps{Addr: some(), Way: some()}
	if data {
		deps.Data = some()
	}
	return deps
}

func (d *dice) addr() uint64 { return pick[uint64](d, 8, 8, 16, 24, 24, 1<<63+8) }

// marked answers an event with marks, or with none.
func (d *dice) marked(e api.Event) api.Event {
	e.Aq, e.Rl = d.below(4) == 0, d.below(4) == 0
	return e
}

// row answers a hart's row of so many events at random.
func (d *dice) row(many int) row {
	l, pair := make(row, many, many+2), -1
	for at := range l {
		a := d.addr()
		e := pick(d, load(a), load(a), store(a), store(a), d.marked(lr(a)), d.marked(amo(a)), fence(d.below(16), d.below(16)))
		if pair >= 0 && d.below(3) == 0 {
			e = d.marked(sc(l[pair].Addr, pair))
			pair = -1
		}
		if e.Kind != api.EvFence {
			e.Deps = d.deps(at, plainWrites(e))
		}
		if e.Kind == api.EvLR {
			pair = at
		}
		l[at] = e
	}
	return l
}

// cand answers a candidate at random, of so many harts, of at most so many events each, that may be.
func (d *dice) cand(harts, many int) api.Cand {
	var rows []row
	for range harts {
		rows = append(rows, d.row(d.below(many+1)))
	}
	c := of(rows...)
	all := slices.Concat(c.Harts...)
	for n, e := range all {
		if !plainReads(e) {
			continue
		}
		l := []int{-1}
		for other, s := range all {
			if plainWrites(s) && s.Addr == e.Addr && other != n {
				l = append(l, other)
			}
		}
		c.From[n] = pick(d, l...)
	}
	for n := range c.Order {
		other := d.below(n + 1)
		c.Order[n], c.Order[other] = c.Order[other], c.Order[n]
	}
	return c
}

func TestReferenceMakesCandidates(t *testing.T) {
	d := dice(1)
	var first, holds [rules + 1]int
	full, longer := map[bool]int{}, 0
	for range 3000 {
		c := d.cand(1+d.below(3), pick(&d, 2, 6))
		if err := cand.Check(c); err != api.OK {
			t.Fatalf("%+v may not be: %d", c, err)
		}
		p := plainly(c)
		full[p.full()]++
		for a, leads := range p.whole() {
			for b, leads := range leads {
				l := p.rules(a, b)
				if leads && len(l) == 0 {
					longer++
				}
				for _, rule := range l {
					holds[rule]++
				}
				first[append(l, 0)[0]]++
			}
		}
	}
	for rule := range rules + 1 {
		// An sc has the Addr of its pair, so that rule 1 holds ahead of rule 8.
		if rule > 0 && holds[rule] < 100 || rule != 8 && first[rule] < 20 || rule == 8 && first[rule] > 0 {
			t.Errorf("rule %d: %d are of it, it is the first of %d", rule, holds[rule], first[rule])
		}
	}
	if full[true] < 300 || full[false] < 300 || longer < 300 {
		t.Errorf("full and not: %v; over several steps: %d", full, longer)
	}
}
