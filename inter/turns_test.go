package inter_test

import (
	"slices"
	"testing"

	"fencepost/api"
	"fencepost/cand"
	"fencepost/code"
	"fencepost/inter"
	"fencepost/run"
)

// P12.2: Turns

// holdTurns holds the turns of a candidate that may be; nil: that there are none. And that a weave of them leads there.
func holdTurns(t *testing.T, m api.Image, c api.Cand, want []int) {
	t.Helper()
	may(t, c)
	if plain, is := plainTurns(m, c); is != (want != nil) || is && !slices.Equal(plain, want) {
		t.Fatalf("the reference tells of %v, %s: %v, %t, want %v", code.Dump(m.Words), tell(c), plain, is, want)
	}
	got, is := inter.Turns(m, c)
	if is != (want != nil) || !slices.Equal(got, want) {
		t.Fatalf("Turns(%v, %s) = %v, %t, want %v", code.Dump(m.Words), tell(c), got, is, want)
	}
	if is {
		holdLeads(t, m, c, got)
	}
}

// weaveOf answers a weave of a candidate's turns: with what memory has at first there, and with the scs won that are events.
func weaveOf(m api.Image, c api.Cand, turns []int) api.Weave {
	w := api.Weave{First: c.First, Harts: turns}
	var p *plainly
	p = begin(m, c.First, func(number int) bool {
		at := len(p.traces[number].Events)
		return at < len(c.Harts[number]) && c.Harts[number][at].Kind == api.EvSC
	})
	for _, turn := range turns {
		p.turn(turn)
	}
	w.Wins = p.said
	return w
}

// upToLast answers a row up to its last one of memory's.
func upToLast(row []api.Event) []api.Event {
	for len(row) > 0 && row[len(row)-1].Kind == api.EvFence {
		row = row[:len(row)-1]
	}
	return row
}

// holdLeads holds what comes of a weave of turns to be a candidate's events, values and order, up to each hart's last one in Order.
func holdLeads(t *testing.T, m api.Image, c api.Cand, turns []int) {
	t.Helper()
	got, err := inter.Do(m, weaveOf(m, c, turns))
	if err != api.OK {
		t.Fatalf("Do: %d", err)
	}
	for number, row := range c.Harts {
		want := upToLast(row)
		if number >= len(got.Cand.Harts) {
			if len(want) > 0 {
				t.Fatalf("hart %d of %s is none", number, tell(c))
			}
			continue
		}
		if told(got.Cand.Harts[number]) != told(want) {
			t.Fatalf("turns %v of %s lead to %s", turns, tell(c), tell(got.Cand))
		}
	}
	// Numbers may be others, where fences are behind.
	all, others := events(c), events(got.Cand)
	if len(got.Cand.Order) != len(c.Order) {
		t.Fatalf("turns %v of %s lead to %s", turns, tell(c), tell(got.Cand))
	}
	for place, n := range c.Order {
		other := got.Cand.Order[place]
		if told(all[n]) != told(others[other]) {
			t.Fatalf("turns %v of %s lead to %s", turns, tell(c), tell(got.Cand))
		}
		source, from := c.From[n], got.Cand.From[other]
		if (source == none) != (from == none) || source != none && told(all[source]) != told(others[from]) {
			t.Fatalf("turns %v of %s lead to %s", turns, tell(c), tell(got.Cand))
		}
	}
}

// noTurns stands for the turns of a candidate of which nothing stands in Order.
var noTurns = []int{}

func TestTurnsOfTheExamples(t *testing.T) {
	m := image(t, lines{"sd x5, 0(x6)", "ld x7, 0(x8)"}, lines{"sd x5, 0(x8)", "ld x7, 0(x6)"})
	for _, turns := range [][]int{{0, 1, 0, 1}, {0, 0, 1, 1}, {1, 0, 0, 1}, {1, 1, 0, 0}, {0, 0, 1}, {1, 1}, {1}} {
		holdTurns(t, m, must(t, m, weave(turns...)).Cand, turns)
	}
	// Both find 0: there are no such turns.
	c := of(row{store(8, 5), load(24, 0)}, row{store(24, 15), load(8, 0)})
	for order := range orders(c.Order) {
		holdTurns(t, m, in(c, order...), nil)
	}
	holdTurns(t, m, must(t, m, weave()).Cand, noTurns)
}

func TestTurnsAreNoMoreThanNeedBe(t *testing.T) {
	m := image(t, lines{"addi x1, x0, 3", "addi x0, x1, 1", "fence w, w", "ecall", "sd x1, 0(x6)", "fence rw, rw", "addi x1, x1, 1", "ld x2, 0(x7)", "fence r, r", "addi x3, x0, 1"},
		lines{"jal x0, 8", "ebreak", "sd x5, 0(x7)", "add x1, x1, x1", "ebreak"})
	whole := must(t, m, weave(0, 1, 0, 0, 0, 0, 0, 1, 0, 0, 0, 0, 1, 1, 1)).Cand
	// What is ahead of an event is turned just ahead of it; what is behind the last one is left.
	holdTurns(t, m, whole, on(0, 0, 0, 0, 0, 1, 1, 0, 0, 0))
	// Fences behind the last one are not looked at: another one, one more, none, one that no run makes.
	for _, behind := range []row{{}, {fence()}, {fence(), fence()}, {{Kind: api.EvFence, Pred: 9}}, {{Kind: api.EvFence, Pred: 2, Succ: 2}, fence(), fence(), fence()}} {
		c := copied(whole)
		c.Harts[0] = append(upToLast(c.Harts[0]), behind...)
		c.From = slices.Repeat(on(none), 0)
		c.Order = on(1, 4+len(behind), 3)
		for at := range c.Harts[0] {
			c.Harts[0][at].At = at
		}
		c.From = slices.Repeat(on(none), 5+len(behind))
		c.From[3] = 4 + len(behind)
		holdTurns(t, m, c, on(0, 0, 0, 0, 0, 1, 1, 0, 0, 0))
	}
	// Of a hart of which nothing stands in Order, nothing is looked at.
	c := of(row{fence(), fence()}, row{store(16, 15), fence()})
	holdTurns(t, m, c, on(1, 1))
	c = of(row{{Kind: api.EvFence, Pred: 1, Succ: 1}}, row{fence(), fence()})
	holdTurns(t, m, c, noTurns)
}

func TestTurnsOfFencesAhead(t *testing.T) {
	m := image(t, lines{"fence rw, rw", "fence w, w", "sd x5, 0(x6)", "fence r, r", "addi x0, x5, 1", "fence iorw, iorw", "sd x5, 0(x7)"})
	f := func(pred, succ int) api.Event { return api.Event{Kind: api.EvFence, Pred: pred, Succ: succ} }
	good := row{f(3, 3), f(1, 1), store(8, 5), f(2, 2), f(15, 15), store(16, 5)}
	holdTurns(t, m, of(good), on(0, 0, 0, 0, 0, 0, 0))
	holdTurns(t, m, of(good[:3]), on(0, 0, 0))
	holdTurns(t, m, of(good[:5]), on(0, 0, 0))
	// Ahead of one in Order each counts.
	for place, wrong := range []api.Event{f(3, 1), f(1, 0), {}, f(2, 3), f(14, 15)} {
		if wrong.Kind == 0 {
			continue
		}
		l := slices.Clone(good)
		l[place] = wrong
		holdTurns(t, m, of(l), nil)
	}
	holdTurns(t, m, of(slices.Delete(slices.Clone(good), 1, 2)), nil)
	holdTurns(t, m, of(slices.Insert(slices.Clone(good), 1, f(1, 1))), nil)
	holdTurns(t, m, of(slices.Insert(slices.Clone(good), 5, f(15, 15))), nil)
	holdTurns(t, m, of(row{f(1, 1), f(3, 3), good[2]}), nil)
	holdTurns(t, m, of(row{good[2]}), nil)
}

func TestTurnsOfEventsThatNoRunMakes(t *testing.T) {
	m := image(t, lines{"ld x1, 0(x6)", "sd x1, 0(x7)", "bne x1, x0, 8", "amoadd.d.aq x2, x5, (x1)", "lr.d x2, (x6)", "sc.d.rl x3, x5, (x6)", "sd x5, 0(x8)"}, lines{"sd x5, 0(x6)"})
	good := must(t, m, api.Weave{First: at(0, 1, 8, 9), Harts: on(1, 0, 0, 0, 0, 0, 0)})
	c := good.Cand
	holdTurns(t, m, c, on(1, 0, 0, 0, 0, 0, 0))
	for place, spoil := range []func(c *api.Cand){
		// What was stored, that nobody reads.
		func(c *api.Cand) { c.Harts[0][1].Store++ },
		func(c *api.Cand) { c.Harts[0][3].Store++ },
		// Another address.
		func(c *api.Cand) { c.Harts[0][1].Addr = 24 },
		func(c *api.Cand) {
			c.Harts[0][2].Addr, c.Harts[0][3].Addr, c.Harts[0][2].Load, c.From[2] = 24, 24, 0, none
		},
		// Marks.
		func(c *api.Cand) { c.Harts[0][2].Aq = true },
		func(c *api.Cand) { c.Harts[0][2].Rl = true },
		func(c *api.Cand) { c.Harts[0][3].Rl = false },
		func(c *api.Cand) { c.Harts[0][3].Aq = true },
		// On what it hangs.
		func(c *api.Cand) { c.Harts[0][1].Deps.Data = nil },
		func(c *api.Cand) { c.Harts[0][1].Deps.Addr = on(0) },
		func(c *api.Cand) { c.Harts[0][1].Deps.Way = on(0) },
		func(c *api.Cand) { c.Harts[0][2].Deps.Way = nil },
		func(c *api.Cand) { c.Harts[0][3].Deps.Way = on(0, 1) },
		func(c *api.Cand) { c.Harts[0][3].Deps.Data = on(0) },
		func(c *api.Cand) { c.Harts[0][3].Deps.Addr = on(2) },
		// Another kind.
		func(c *api.Cand) { c.Harts[0][0].Kind = api.EvLR },
		func(c *api.Cand) { c.Harts[0][1].Kind, c.Harts[0][1].Load = api.EvAmo, 0 },
		func(c *api.Cand) {
			e := &c.Harts[0][3]
			e.Kind, e.Pair, e.Rl = api.EvStore, 0, false
		},
		// Another way: what was loaded tells.
		func(c *api.Cand) { c.First, c.Harts[1][0].Store, c.Harts[0][0].Load, c.Harts[0][2].Load = nil, 0, 0, 0 },
		// A hart's event that its words have not.
		func(c *api.Cand) { c.Harts[1][0].Store = 5; c.Harts[0][0].Load, c.Harts[0][2].Load = 5, 5 },
	} {
		bad := copied(c)
		spoil(&bad)
		if told(bad) == told(c) {
			t.Fatalf("change %d is none", place)
		}
		holdTurns(t, m, bad, nil)
	}
	// Events of a hart that ended ahead of them, or that does something else there, or nothing.
	holdTurns(t, m, of(nil, row{store(8, 15), store(8, 15)}), nil)
	holdTurns(t, m, of(nil, row{load(8, 0)}), nil)
	holdTurns(t, m, of(row{store(8, 5)}), nil)
	// What another image makes.
	other := m
	other.Words = slices.Clone(m.Words)
	other.Words[1] = words(t, "sd x5, 0(x7)")[0]
	holdTurns(t, other, c, nil)
	other.Start = slices.Clone(m.Start)
	other.Words = m.Words
	other.Start[0].X[5]++
	holdTurns(t, other, c, nil)
	other.Start[0].X[5]--
	other.Start[0].X[9]++
	holdTurns(t, other, c, on(1, 0, 0, 0, 0, 0, 0))
}

func TestTurnsOfOneThatIsNotPlain(t *testing.T) {
	m := image(t, lines{"sd x5, 0(x6)", "sd x5, 0(x7)", "ld x1, 0(x7)"}, lines{"ld x1, 0(x7)", "ld x2, 0(x6)"})
	// Runs all of them; turned in Order, or read from elsewhere.
	holdTurns(t, m, from(of(row{store(8, 5), store(16, 5), load(16, 5)}, row{load(16, 5), load(8, 5)}), 2, 1, 3, 1, 4, 0), on(0, 0, 0, 1, 1))
	holdTurns(t, m, from(in(of(row{store(8, 5), store(16, 5), load(16, 5)}, row{load(16, 5), load(8, 0)}), 1, 2, 3, 4, 0), 2, 1, 3, 1), nil)
	holdTurns(t, m, in(of(nil, row{load(16, 0), load(8, 0)}), 1, 0), nil)
	holdTurns(t, m, of(row{store(8, 5)}, row{load(16, 0), load(8, 0)}), nil)
	holdTurns(t, m, from(with(of(row{store(8, 5)}, row{load(16, 0), load(8, 5)}), 8, 5), 2, 0), on(0, 1, 1))
	holdTurns(t, m, with(of(row{store(8, 5)}, row{load(16, 0), load(8, 5)}), 8, 5), nil)
	for name, c := range badCands() {
		if l, is := inter.Turns(m, c); is || len(l) > 0 {
			t.Errorf("%s: %v, %t", name, l, is)
		}
	}
}

func TestTurnsOfAnImageThatMayNotBe(t *testing.T) {
	for place, spoil := range spoilers() {
		m, w := good(t)
		for _, c := range []api.Cand{must(t, m, w).Cand, of(nil)} {
			holdTurns(t, m, c, w.Harts[:len(c.Order)])
			bad := m
			bad.Start = slices.Clone(m.Start)
			spoil(&bad)
			if l, is := inter.Turns(bad, c); is || len(l) > 0 {
				t.Errorf("change %d: %v, %t", place, l, is)
			}
		}
	}
}

func TestTurnsOfOtherNumbersOfHarts(t *testing.T) {
	m := image(t, lines{"sd x5, 0(x6)"}, lines{"sd x5, 0(x7)"})
	// Harts of the image that have no row are not turned.
	holdTurns(t, m, of(row{store(8, 5)}), on(0))
	holdTurns(t, m, of(nil), noTurns)
	// A row's hart that the image has not makes nothing; where nothing of it stands in Order, nothing is looked at.
	holdTurns(t, m, of(row{store(8, 5)}, row{store(16, 15)}, row{store(16, 25)}), nil)
	holdTurns(t, m, of(row{store(8, 5)}, row{store(16, 15)}, row{fence()}, nil), on(0, 1))
	holdTurns(t, m, of(nil, nil, nil, nil, nil, nil, nil, row{store(8, 5)}), nil)
	holdTurns(t, m, of(make([]row, 8)...), noTurns)
}

func TestTurnsOfScs(t *testing.T) {
	// A loop round an sc: it lost as often as there is an lr more.
	loop := lines{lrLine, scLine, "bne x2, x0, -8", "sd x5, 0(x7)"}
	m := image(t, loop, lines{"sd x5, 0(x8)"})
	for lost := range 5 {
		wins := append(slices.Repeat([]bool{false}, lost), true)
		turns := append(slices.Repeat(on(0, 0, 0), lost), 0, 0, 0, 0)
		c := must(t, m, api.Weave{Harts: turns, Wins: wins}).Cand
		if len(c.Harts[0]) != lost+3 {
			t.Fatalf("%s", tell(c))
		}
		holdTurns(t, m, c, turns)
		// Behind the last one that stands in Order it may have won, or not.
		holdTurns(t, m, must(t, m, api.Weave{Harts: turns[:3*lost+1], Wins: wins}).Cand, turns[:3*lost+1])
	}
	// It lost since another hart stored there; the turns make it lose again.
	m = image(t, loop, lines{"sd x5, 0(x6)", "sd x5, 0(x8)"})
	turns := on(0, 1, 0, 0, 0, 0, 1, 0, 0)
	holdTurns(t, m, must(t, m, weave(turns...)).Cand, on(0, 1, 0, 0, 0, 0, 1, 0, 0))
	// One that is not held, that has another address, behind another one.
	m = image(t, lines{scLine, "lr.d x1, (x7)", scLine, "lr.d x1, (x6)", scLine, scLine, "sd x5, 0(x8)"})
	for _, wins := range [][]bool{{true}, {false}} {
		holdTurns(t, m, must(t, m, api.Weave{Harts: make([]int, 7), Wins: wins}).Cand, make([]int, 7))
	}
	// An SC where none may be held: no run has it.
	holdTurns(t, m, of(row{lr(16, 0), sc(16, 5, 0)}), nil)
	m = image(t, lines{lrLine, "sc.d x2, x5, (x7)", "sc.d x2, x5, (x6)"})
	holdTurns(t, m, of(row{lr(8, 0), sc(8, 5, 0)}), nil)
	holdTurns(t, m, of(row{lr(8, 0)}), on(0))
	// It is told to win where it stored, elsewhere there is nothing.
	m = image(t, lines{lrLine, scLine, "sd x2, 0(x7)"})
	c := hangs(store(16, 0), nil, on(1), nil)
	holdTurns(t, m, of(row{lr(8, 0), sc(8, 5, 0), c}), on(0, 0, 0))
	holdTurns(t, m, of(row{lr(8, 0), store(16, 1)}), on(0, 0, 0))
	holdTurns(t, m, of(row{lr(8, 0), store(16, 0)}), nil)
	holdTurns(t, m, of(row{lr(8, 0), sc(8, 5, 0), store(16, 1)}), nil)
	holdTurns(t, m, of(row{lr(8, 0), store(8, 5), store(16, 1)}), nil)
}

func TestTurnsOfAnScThatNoWeaveWins(t *testing.T) {
	// Each hart's events are a run's, and the candidate is plain; but another hart stored between.
	m := image(t, lines{lrLine, scLine}, lines{"sd x5, 0(x6)"})
	c := in(of(row{lr(8, 0), sc(8, 5, 0)}, row{store(8, 15)}), 0, 2, 1)
	for number, row := range c.Harts {
		x, err := run.Run(m, number, api.Picks{Loads: u(0), Wins: []bool{true}, Steps: len(row)})
		if err != api.OK || told(x.Events) != told(row) {
			t.Fatalf("%s", told(x))
		}
	}
	holdPlain(t, c, true)
	holdTurns(t, m, c, nil)
	holdTurns(t, m, in(c, 0, 1, 2), on(0, 0, 1))
	holdTurns(t, m, from(in(of(row{lr(8, 15), sc(8, 5, 0)}, row{store(8, 15)}), 2, 0, 1), 0, 2), on(1, 0, 0))
}

func TestTurnsThatWait(t *testing.T) {
	nop := "addi x9, x9, 1"
	fillers := map[string]lines{
		"nothing asked": times(1, nop), "a mark": times(1, "addi x0, x5, 7"), "an out": times(1, "ecall"), "an sc that is lost": times(1, scLine),
	}
	for name, filler := range fillers {
		ahead := func(many int) lines { return slices.Repeat(filler, many) }
		make := func(l ...lines) (api.Image, api.Cand) {
			all := slices.Concat(l...)
			m := image(t, all, lines{"sd x5, 0(x8)"})
			return m, must(t, m, weave(slices.Repeat(on(0), len(all))...)).Cand
		}
		// The first event, with just as many turns as may be, and with one more.
		m, c := make(ahead(api.MaxWait-1), lines{"sd x5, 0(x6)"})
		holdTurns(t, m, c, slices.Repeat(on(0), api.MaxWait))
		m, c = make(ahead(api.MaxWait), lines{"sd x5, 0(x6)"})
		holdTurns(t, m, c, nil)
		// The second one.
		m, c = make(ahead(api.MaxWait-1), lines{"sd x5, 0(x6)"}, ahead(api.MaxWait-1), lines{"ld x1, 0(x6)"})
		holdTurns(t, m, c, slices.Repeat(on(0), 2*api.MaxWait))
		m, c = make(lines{"sd x5, 0(x6)"}, ahead(api.MaxWait), lines{"ld x1, 0(x6)"})
		holdTurns(t, m, c, nil)
		m, c = make(ahead(api.MaxWait), lines{"sd x5, 0(x6)"}, lines{"ld x1, 0(x6)"})
		holdTurns(t, m, c, nil)
		// Behind the last one nobody waits.
		m, c = make(lines{"sd x5, 0(x6)"}, ahead(3*api.MaxWait))
		if got, is := inter.Turns(m, c); !is || !slices.Equal(got, on(0)) {
			t.Errorf("%s behind: %v, %t", name, got, is)
		}
	}
	// Each hart waits for itself: others' turns between do not count.
	l := slices.Concat(times(255, nop), lines{"sd x5, 0(x6)"}, times(255, nop), lines{"sd x5, 0(x7)"})
	m := image(t, l, l, l)
	c := must(t, m, weave(slices.Repeat(on(0, 1, 2), 512)...)).Cand
	var want []int
	for _, hart := range on(0, 1, 2, 0, 1, 2) {
		want = append(want, slices.Repeat(on(hart), 256)...)
	}
	holdTurns(t, m, c, want)
}

func TestTurnsThatWaitForFences(t *testing.T) {
	nop, barrier := "addi x9, x9, 1", "fence rw, rw"
	// A fence is an event: so many turns for it, and so many for the one behind it.
	wait := func(many int, line string) lines { return append(times(many-1, nop), line) }
	make := func(l ...lines) (api.Image, api.Cand) {
		all := slices.Concat(l...)
		m := image(t, all, lines{"sd x5, 0(x8)"})
		return m, must(t, m, weave(slices.Repeat(on(0), len(all))...)).Cand
	}
	m, c := make(wait(202, barrier), wait(202, "sd x5, 0(x6)"))
	holdTurns(t, m, c, slices.Repeat(on(0), 404))
	m, c = make(wait(256, barrier), wait(256, "sd x5, 0(x6)"))
	holdTurns(t, m, c, slices.Repeat(on(0), 512))
	m, c = make(wait(257, barrier), wait(2, "sd x5, 0(x6)"))
	holdTurns(t, m, c, nil)
	m, c = make(wait(2, barrier), wait(257, "sd x5, 0(x6)"))
	holdTurns(t, m, c, nil)
	// Behind one of memory's, and one fence behind the other.
	m, c = make(wait(256, "sd x5, 0(x6)"), wait(256, barrier), wait(256, barrier), wait(256, "ld x1, 0(x7)"))
	holdTurns(t, m, c, slices.Repeat(on(0), 1024))
	m, c = make(wait(256, "sd x5, 0(x6)"), wait(256, barrier), wait(257, barrier), wait(256, "ld x1, 0(x7)"))
	holdTurns(t, m, c, nil)
	m, c = make(wait(256, "sd x5, 0(x6)"), wait(257, barrier), wait(1, "ld x1, 0(x7)"))
	holdTurns(t, m, c, nil)
	// Many fences, of which none waits.
	m, c = make(times(3000, barrier), lines{"sd x5, 0(x6)"})
	holdTurns(t, m, c, slices.Repeat(on(0), 3001))
	m, c = make(times(500, nop, barrier), lines{"sd x5, 0(x6)"})
	holdTurns(t, m, c, slices.Repeat(on(0), 1001))
	// What does not come into Order may wait for ever.
	m, c = make(lines{"sd x5, 0(x6)"}, wait(300, barrier))
	holdTurns(t, m, c, on(0))
	// All that an event needs comes ahead of it in Order: the fences' turns, too.
	m = image(t, slices.Concat(wait(200, barrier), wait(100, "sd x5, 0(x6)")), slices.Concat(wait(100, barrier), wait(200, "sd x5, 0(x7)")))
	c = must(t, m, weave(slices.Repeat(on(0, 1), 300)...)).Cand
	holdTurns(t, m, c, append(slices.Repeat(on(0), 300), slices.Repeat(on(1), 300)...))
}

func TestTurnsOfMoreFencesThanSteps(t *testing.T) {
	// 257 fences, each behind 255 turns: together more than a weave may have.
	round := append(times(253, "addi x10, x10, 0"), "fence rw, rw", "addi x9, x9, -1", "bne x9, x0, -1020")
	l := slices.Concat(round, lines{"sd x5, 0(x6)"})
	for _, x := range []struct {
		rounds int
		is     bool
	}{{3, true}, {255, true}, {256, false}, {300, false}} {
		m := image(t, l)
		m.Start[0].X[9] = uint64(x.rounds)
		c := of(append(long(x.rounds, func(int) api.Event { return fence() }), store(8, 5)))
		may(t, c)
		turns, is := inter.Turns(m, c)
		want := 256*x.rounds + 1
		if !x.is {
			want = 0
		}
		if is != x.is || len(turns) != want {
			t.Errorf("%d rounds: %d turns, %t", x.rounds, len(turns), is)
		}
	}
}

func TestTurnsOfHartsThatDoNotCome(t *testing.T) {
	// One that goes round for ever, with or without events that are no memory's; one that ended.
	c := of(row{store(8, 5)})
	for _, l := range []lines{{"jal x0, 0"}, {"addi x9, x9, 1", "jal x0, -4"}, {"ecall", "jal x0, -4"}, {scLine, "jal x0, -4"}, {"ebreak", "sd x5, 0(x6)"}, {}, {"lw x1, 0(x6)", "sd x5, 0(x6)"}} {
		holdTurns(t, image(t, l), c, nil)
	}
	holdTurns(t, image(t, lines{"fence rw, rw", "jal x0, -4"}), of(row{fence(), fence(), store(8, 5)}), nil)
	holdTurns(t, image(t, lines{"fence rw, rw", "jal x0, -4"}), of(row{fence(), fence()}), noTurns)
}

// counting answers an image of a hart that stores so often, each time behind so many turns, and of another one that stores once.
func counting(t *testing.T, stores, wait int) api.Image {
	t.Helper()
	l := slices.Concat(times(wait-3, "addi x10, x10, 0"), lines{"sd x5, 0(x6)", "addi x9, x9, -1"})
	l = append(l, lines{"bne x9, x0, -" + told(4*(wait-1))}...)
	m := image(t, l, lines{"sd x5, 0(x7)"})
	m.Start[0].X[9] = uint64(stores)
	return m
}

func TestTurnsOfMostSteps(t *testing.T) {
	// The first store needs two turns less than the others.
	m := counting(t, 257, 256)
	got, err := inter.Do(m, weave(make([]int, api.MaxSteps)...))
	c := got.Cand
	if err != api.OK || len(c.Harts[0]) != 256 {
		t.Fatalf("%d: %d events", err, len(c.From))
	}
	turns, is := inter.Turns(m, c)
	if !is || !slices.Equal(turns, make([]int, api.MaxSteps-2)) {
		t.Fatalf("%d turns, %t", len(turns), is)
	}
	// Two more turns ahead make just as many as a weave may have.
	m.Words = append(words(t, "addi x0, x0, 0", "addi x0, x0, 0"), m.Words...)
	m.Start[1].PC += 8
	got, err = inter.Do(m, weave(make([]int, api.MaxSteps)...))
	c = got.Cand
	if err != api.OK || len(c.Harts[0]) != 256 {
		t.Fatalf("%d: %d events", err, len(c.From))
	}
	turns, is = inter.Turns(m, c)
	if !is || !slices.Equal(turns, make([]int, api.MaxSteps)) {
		t.Fatalf("%d turns, %t", len(turns), is)
	}
	if again, err := inter.Do(m, weave(turns...)); err != api.OK || !inter.Same(again, got) {
		t.Errorf("%d: another one came of it", err)
	}
	// One more, of another hart, is more than a weave may have.
	e := store(16, 15)
	e.Hart = 1
	c.Harts[1] = []api.Event{e}
	c.From, c.Order = append(c.From, none), append(c.Order, 256)
	may(t, c)
	if turns, is := inter.Turns(m, c); is || len(turns) > 0 {
		t.Errorf("%d turns, %t", len(turns), is)
	}
}

func TestTurnsOfMostEvents(t *testing.T) {
	m := image(t, slices.Repeat([]lines{{"sd x5, 0(x6)", "ld x1, 0(x7)", "amoadd.d x2, x5, (x8)", "fence rw, rw", "jal x0, -16"}}, api.MaxHarts)...)
	turns := slices.Repeat(on(0, 0, 0, 0, 0, 1, 1, 1, 1, 1, 2, 3, 4, 5, 6, 7, 2, 3, 4, 5, 6, 7, 2, 3, 4, 5, 6, 7, 2, 3, 4, 5, 6, 7, 2, 3, 4, 5, 6, 7), 128)
	got, err := inter.Do(m, weave(turns...))
	if err != api.OK || len(got.Cand.From) != api.MaxEvents {
		t.Fatalf("%d: %d events", err, len(got.Cand.From))
	}
	l, is := inter.Turns(m, got.Cand)
	if !is || len(l) != len(turns)-2*api.MaxHarts {
		t.Fatalf("%d turns, %t", len(l), is)
	}
	again, err := inter.Do(m, weave(l...))
	if err != api.OK || !slices.EqualFunc(again.Cand.Order, got.Cand.Order, func(a, b int) bool {
		return told(events(again.Cand)[a]) == told(events(got.Cand)[b])
	}) {
		t.Errorf("%d: another one came of it", err)
	}
}

func TestTurnsAtRandom(t *testing.T) {
	met, longer := 0, 0
	many(t, 8, 700, func(m api.Image, w api.Weave) {
		c := must(t, m, w).Cand
		want, is := plainTurns(m, c)
		if !is {
			t.Fatalf("no turns come to %s", tell(c))
		}
		holdTurns(t, m, c, append(noTurns, want...))
		met++
		if len(w.Harts) > len(want) {
			longer++
		}
	})
	if met < 2000 || longer < 700 {
		t.Errorf("%d, %d with needless turns", met, longer)
	}
}

func TestTurnsOfSpoiltOnesAtRandom(t *testing.T) {
	d, yes, no := dice(9), 0, 0
	many(t, 10, 1000, func(m api.Image, w api.Weave) {
		c := copied(must(t, m, w).Cand)
		if len(c.Order) < 2 {
			return
		}
		d.spoil(&c)
		if cand.Check(c) != api.OK {
			return
		}
		want, is := plainTurns(m, c)
		if !is {
			no++
			holdTurns(t, m, c, nil)
			return
		}
		yes++
		holdTurns(t, m, c, append(noTurns, want...))
	})
	if yes < 200 || no < 500 {
		t.Errorf("%d have turns, %d have none", yes, no)
	}
}

// spoil changes one thing of a candidate; it may have turns, or not, or may not be.
func (d *dice) spoil(c *api.Cand) {
	n := c.Order[d.below(len(c.Order))]
	e := events(*c)[n]
	p := &c.Harts[e.Hart][e.At]
	switch d.below(9) {
	case 0:
		if plainWrites(*p) {
			p.Store++
		}
	case 1:
		p.Deps.Way = nil
	case 2:
		p.Deps.Addr = nil
	case 3:
		p.Addr += 8
	case 4:
		p.Aq = !p.Aq
	case 5, 6, 7:
		at := d.below(len(c.Order) - 1)
		c.Order[at], c.Order[at+1] = c.Order[at+1], c.Order[at]
	case 8:
		// Behind the last one of a hart a fence more.
		hart := d.below(len(c.Harts))
		behind := 0
		for _, row := range c.Harts[:hart+1] {
			behind += len(row)
		}
		c.Harts[hart] = append(c.Harts[hart], api.Event{Hart: hart, At: len(c.Harts[hart]), Kind: api.EvFence, Pred: 7})
		c.From = slices.Insert(c.From, behind, none)
		for _, l := range [][]int{c.From, c.Order} {
			for place := range l {
				if l[place] >= behind {
					l[place]++
				}
			}
		}
	}
}
