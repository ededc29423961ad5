package cand_test

import (
	"math"
	"slices"
	"testing"

	"fencepost/api"
	"fencepost/cand"
)

// P9.1: Check; and all calls of a candidate that may be, or may not be (hold).

// The chapter's example: hart 0 stores 1 at 8, hart 1 loads 8.
func example(from int, found uint64) api.Cand {
	return api.Cand{Harts: of(row{store(8, 1)}, row{load(8, found)}), From: []int{-1, from}, Order: []int{0, 1}}
}

func TestExamples(t *testing.T) {
	c := example(0, 1)
	if err := cand.Check(c); err != api.OK {
		t.Errorf("Check = %d", err)
	}
	if last := cand.Last(c); !slices.Equal(last, at(8, 1)) {
		t.Errorf("Last = %v", last)
	}
	hold(t, c, true)
	hold(t, example(-1, 1), false)
	hold(t, example(-1, 0), true)
	hold(t, example(0, 0), false)
}

func TestCheckOfHowManyHarts(t *testing.T) {
	for harts := range 12 {
		// Without events, and with one each.
		hold(t, api.Cand{Harts: make([][]api.Event, harts)}, 1 <= harts && harts <= 8)
		var c api.Cand
		for hart := range harts {
			c.Harts = append(c.Harts, []api.Event{{Hart: hart, Kind: api.EvFence}})
			c.From = append(c.From, -1)
		}
		hold(t, c, 1 <= harts && harts <= 8)
		// A ninth without events.
		if harts == 9 {
			c.Harts[8], c.From = nil, c.From[:8]
			hold(t, c, false)
		}
	}
	hold(t, api.Cand{}, false)
	hold(t, api.Cand{Harts: [][]api.Event{}}, false)
	hold(t, api.Cand{Harts: [][]api.Event{{}}}, true)
	// What is beyond the list counts for nothing.
	hold(t, api.Cand{Harts: make([][]api.Event, 9)[:8]}, true)
	hold(t, api.Cand{Harts: make([][]api.Event, 1)[:0]}, false)
	hold(t, api.Cand{First: at(8, 1), From: []int{-1}, Order: []int{0}}, false)
}

func TestCheckOfFirst(t *testing.T) {
	holdFirst := func(may bool, l ...uint64) {
		t.Helper()
		hold(t, api.Cand{First: at(l...), Harts: make([][]api.Event, 1)}, may)
		// With a hart that does something elsewhere.
		hold(t, api.Cand{First: at(l...), Harts: of(row{store(1<<40, 1), fence()}), From: []int{-1, -1}, Order: []int{0}}, may)
	}
	holdFirst(true)
	holdFirst(true, 0, 1)
	holdFirst(true, 0, 0)
	holdFirst(true, 8, 0)
	holdFirst(true, 8, 5, 16, 0, 24, 5)
	holdFirst(true, 0, 1, 8, 1, 1<<63, 1, math.MaxUint64-7, math.MaxUint64)
	for offset := uint64(1); offset < 8; offset++ {
		for _, from := range []uint64{0, 8, 4096, 1 << 63, math.MaxUint64 - 7} {
			holdFirst(false, from+offset, 1)
			holdFirst(false, from+offset, 0)
		}
		holdFirst(false, 0, 1, 8+offset, 1)
		holdFirst(false, 0, 1, 8+offset, 1, 16, 1)
		holdFirst(false, offset, 1, 8, 1)
	}
	// They fall, or one is there twice.
	holdFirst(false, 8, 1, 0, 1)
	holdFirst(false, 1<<63, 1, 8, 1)
	holdFirst(false, math.MaxUint64-7, 1, 0, 1)
	holdFirst(false, 0, 1, 8, 1, 16, 1, 8, 1)
	holdFirst(false, 0, 1, 16, 1, 8, 1, 24, 1)
	holdFirst(false, 8, 1, 8, 1)
	holdFirst(false, 8, 1, 8, 2)
	holdFirst(false, 8, 0, 8, 0)
	holdFirst(false, 0, 0, 0, 0)
	holdFirst(false, 0, 1, 8, 1, 8, 1, 16, 1)
	holdFirst(false, 0, 1, 8, 1, 16, 1, 16, 1)
}

func TestCheckOfRows(t *testing.T) {
	c := api.Cand{
		Harts: of(row{lr(8, 0), sc(8, 1, 0), fence()}, row{store(8, 2), load(8, 1)}, nil),
		From:  []int{-1, -1, -1, -1, 1}, Order: []int{0, 1, 3, 4},
	}
	hold(t, c, true)
	change := func(changes func(h [][]api.Event)) {
		t.Helper()
		one := copied(c)
		changes(one.Harts)
		hold(t, one, false)
	}
	for hart, l := range c.Harts {
		for at := range l {
			change(func(h [][]api.Event) { h[hart][at].Hart++ })
			change(func(h [][]api.Event) { h[hart][at].Hart-- })
			change(func(h [][]api.Event) { h[hart][at].Hart = 8 })
			change(func(h [][]api.Event) { h[hart][at].At++ })
			change(func(h [][]api.Event) { h[hart][at].At-- })
			change(func(h [][]api.Event) { h[hart][at].Kind = 0 })
			change(func(h [][]api.Event) { h[hart][at].Kind = 7 })
			change(func(h [][]api.Event) { h[hart][at].Addr += 4 })
			change(func(h [][]api.Event) { h[hart][at].Deps.Way = []int{at} })
			change(func(h [][]api.Event) { h[hart][at].Deps.Addr = []int{-1} })
			change(func(h [][]api.Event) { h[hart][at].Pair += 5 })
		}
	}
	// They stand in another hart's list.
	change(func(h [][]api.Event) { h[0], h[1] = h[1], h[0] })
	change(func(h [][]api.Event) { h[2], h[1] = h[1], nil })
	change(func(h [][]api.Event) { h[2] = h[1] })
	change(func(h [][]api.Event) { h[2] = h[0][2:] })
	change(func(h [][]api.Event) { h[1], h[2] = h[1][:1], h[1][1:] })
	change(func(h [][]api.Event) { h[0], h[1] = slices.Concat(h[0], h[1]), nil })
	change(func(h [][]api.Event) { h[0][0], h[0][2] = h[0][2], h[0][0] })
	// The sc has no pair.
	change(func(h [][]api.Event) { h[0][0].Addr = 16 })
	change(func(h [][]api.Event) { h[0][0].Kind, h[0][0].Aq = api.EvLoad, false })
	// Other numbers than events: an event left out, one more.
	change(func(h [][]api.Event) { h[0] = h[0][:2] })
	change(func(h [][]api.Event) { h[2] = []api.Event{{Hart: 2, Kind: api.EvFence}} })
}

// huge answers a candidate of rows so long, fences and stores by turns.
func huge(long ...int) api.Cand {
	var c api.Cand
	for hart, many := range long {
		l := make([]api.Event, many)
		for at := range l {
			l[at] = api.Event{Hart: hart, At: at, Kind: api.EvFence}
			if at%2 == 1 {
				l[at] = api.Event{Hart: hart, At: at, Kind: api.EvStore, Addr: 8, Store: uint64(at)}
				c.Order = append(c.Order, len(c.From))
			}
			c.From = append(c.From, -1)
		}
		c.Harts = append(c.Harts, l)
	}
	return c
}

func TestCheckOfMaxEvents(t *testing.T) {
	for _, long := range [][]int{
		{4096}, {0, 4096}, {4095, 1}, {1, 4095}, {2048, 2048}, {512, 512, 512, 512, 512, 512, 512, 512}, {4000, 0, 0, 0, 0, 0, 90, 6}, {4095}, {1024, 1024},
	} {
		c := huge(long...)
		last := len(c.From) - 1
		if err := cand.Check(c); err != api.OK {
			t.Errorf("%v: %d", long, err)
		}
		if all := cand.All(c); len(all) != last+1 || told(all) != told(plainAll(c)) {
			t.Errorf("%v: %d events", long, len(all))
		}
		holdPlaces(t, c)
		p := plainPlaces(c)[last]
		if n, err := cand.Number(c, p.hart, p.at); n != last || err != api.OK {
			t.Errorf("%v: the last number is %d, %d", long, n, err)
		}
		if got := told(cand.Last(c)); got != told(plainMemoryThen(c)) {
			t.Errorf("%v: %s", long, got)
		}
		// One more, a fence or a store, anywhere.
		for hart := range long {
			if last != 4095 {
				break
			}
			more := slices.Clone(long)
			more[hart]++
			hold(t, huge(more...), false)
		}
	}
	for _, long := range [][]int{{4097}, {4096, 1}, {1, 4096}, {4096, 4096}, {1 << 16}, {513, 512, 512, 512, 512, 512, 512, 512}, {8192}, {1 << 12, 0, 1}} {
		hold(t, huge(long...), false)
	}
	if api.MaxEvents != 4096 {
		t.Errorf("MaxEvents is %d", api.MaxEvents)
	}
}

func TestCheckOfHowManyFroms(t *testing.T) {
	for _, c := range []api.Cand{
		example(0, 1), example(-1, 0),
		{Harts: of(row{fence(), fence()}), From: []int{-1, -1}},
		{Harts: of(row{store(8, 1)}, nil, row{store(8, 1)}), From: []int{-1, -1}, Order: []int{1, 0}},
	} {
		hold(t, c, true)
		all := roomy(c.From...)
		for few := range c.From {
			c.From = all[:few]
			hold(t, c, false)
		}
		for _, more := range [][]int{{-1}, {0}, {-1, -1}, {1}} {
			c.From = append(slices.Clone(all), more...)
			hold(t, c, false)
		}
		c.From = nil
		hold(t, c, false)
	}
	hold(t, api.Cand{Harts: make([][]api.Event, 2), From: []int{-1}}, false)
	hold(t, api.Cand{Harts: make([][]api.Event, 2), From: []int{}}, true)
}

// noNumbers are numbers of no event, for a candidate of so many.
func noNumbers(many int) []int {
	return []int{-2, -3, -many, -many - 1, many, many + 1, 255 + many, 1 << 32, 1<<32 + 1, 1 << 62, math.MinInt, math.MinInt + 1, math.MaxInt}
}

func TestCheckOfWhatIsRead(t *testing.T) {
	// Hart 1 reads 5 at 8, in each way; around it all that it may not read from, and some that it may.
	for _, reads := range []api.Event{load(8, 5), lr(8, 5), amo(8, 5, 5), amo(8, 5, 6)} {
		c := api.Cand{
			First: at(8, 4, 16, 5),
			Harts: of(
				row{store(8, 5), store(8, 6), store(16, 5), fence(), load(8, 5), lr(8, 5), sc(8, 5, 5), amo(8, 5, 5), amo(8, 5, 4), amo(16, 5, 5)},
				row{reads, store(8, 5), store(8, 4)},
			),
			From:  []int{-1, -1, -1, -1, 0, 0, -1, 0, 0, -1, 0, -1, -1},
			Order: []int{0, 1, 2, 4, 5, 6, 7, 8, 9, 10, 11, 12},
		}
		for from := -1; from < 13; from++ {
			c.From[10] = from
			// Those that store 5 at 8: a store, an sc, an amo, of any hart, ahead or behind.
			hold(t, c, slices.Contains([]int{0, 6, 7, 11}, from))
		}
		for _, from := range noNumbers(13) {
			c.From[10] = from
			hold(t, c, false)
		}
	}
}

func TestCheckOfAnAmoThatReadsFromItself(t *testing.T) {
	for _, v := range []uint64{0, 1, math.MaxUint64} {
		c := api.Cand{First: at(8, v), Harts: of(row{amo(8, v, v)}), From: []int{-1}, Order: []int{0}}
		hold(t, c, true)
		c.From[0] = 0
		hold(t, c, false)
		// From one another they may.
		c = api.Cand{Harts: of(row{amo(8, v, v)}, row{amo(8, v, v)}), From: []int{1, 0}, Order: []int{1, 0}}
		hold(t, c, true)
		for _, from := range [][]int{{0, 0}, {1, 1}, {0, 1}, {0, -1}, {-1, 1}} {
			c.From = from
			hold(t, c, false)
		}
		c.From = []int{-1, 0}
		hold(t, c, v == 0)
	}
}

func TestCheckOfWhatMemoryHadAtFirst(t *testing.T) {
	first := at(0, 7, 8, 1, 16, 0, 32, 3, 1<<63, 9)
	for _, there := range append(at(24, 0, 40, 0, 1<<62, 0, math.MaxUint64-7, 0), first...) {
		for _, found := range []uint64{0, 1, 3, 7, 9, 1 << 63, math.MaxUint64} {
			for _, reads := range []api.Event{load(there.Addr, found), lr(there.Addr, found), amo(there.Addr, found, 1)} {
				c := api.Cand{First: first, Harts: of(nil, row{reads}), From: []int{-1}, Order: []int{0}}
				hold(t, c, found == there.Value)
				// Whoever stores it does not change what was there at first.
				c.Harts[0], c.From, c.Order = of(row{store(there.Addr, found)})[0], []int{-1, -1}, []int{0, 1}
				hold(t, c, found == there.Value)
				c.From[1] = 0
				hold(t, c, true)
			}
		}
	}
}

func TestCheckOfThoseThatDoNotRead(t *testing.T) {
	// All has 5 at 8, memory too: a From that one that reads might have.
	c := api.Cand{
		First: at(8, 5),
		Harts: of(row{store(8, 5), lr(8, 5), sc(8, 5, 1), fence(), amo(8, 5, 5)}, row{store(8, 5), fence()}),
		From:  []int{-1, -1, -1, -1, -1, -1, -1}, Order: []int{0, 1, 2, 4, 5},
	}
	hold(t, c, true)
	for n := range c.From {
		reads := n == 1 || n == 4
		for from := range c.From {
			c.From[n] = from
			hold(t, c, reads && slices.Contains([]int{0, 2, 4, 5}, from) && from != n)
		}
		for _, from := range noNumbers(7) {
			c.From[n] = from
			hold(t, c, false)
		}
		c.From[n] = -1
	}
	// Of noughts as well.
	hold(t, api.Cand{Harts: of(row{store(0, 0)}), From: []int{0}, Order: []int{0}}, false)
	hold(t, api.Cand{Harts: of(row{fence()}), From: []int{0}}, false)
	hold(t, api.Cand{Harts: of(row{store(0, 0), fence()}), From: []int{-1, 0}, Order: []int{0}}, false)
	hold(t, api.Cand{Harts: of(row{store(0, 0), store(0, 0)}), From: []int{1, 0}, Order: []int{0, 1}}, false)
}

// orders goes through all lists of these numbers, of at most so many.
func orders(numbers []int, most int, each func(l []int)) {
	var grow func(l []int)
	grow = func(l []int) {
		each(l)
		for _, n := range numbers {
			if len(l) < most {
				grow(append(l, n))
			}
		}
	}
	grow(make([]int, 0, most))
}

func TestCheckOfAllShortOrders(t *testing.T) {
	for _, c := range []api.Cand{
		{Harts: make([][]api.Event, 1)},
		{Harts: of(row{fence()}), From: []int{-1}},
		{Harts: of(row{load(8, 0)}), From: []int{-1}},
		{Harts: of(row{load(8, 0), fence()}, row{fence(), store(8, 1)}), From: []int{-1, -1, -1, -1}},
		{Harts: of(row{lr(8, 0), fence(), sc(8, 1, 0)}, row{amo(8, 1, 1)}), From: []int{-1, -1, -1, 2}},
		{Harts: of(row{fence(), fence()}, nil, row{fence()}), From: []int{-1, -1, -1}},
	} {
		memory, met := plainMemory(plainAll(c)), 0
		orders([]int{-1, 0, 1, 2, 3, 4}, 4, func(l []int) {
			c.Order = l
			may := slices.Equal(slices.Sorted(slices.Values(l)), memory)
			if may {
				met++
			}
			if got := cand.Check(c); (got == api.OK) != may {
				t.Fatalf("Check(%+v) = %d", c, got)
			}
		})
		if want := []int{1, 1, 2, 6}[len(memory)]; met != want {
			t.Errorf("%d orders may be, want %d", met, want)
		}
	}
}

func TestCheckOfOrders(t *testing.T) {
	c := api.Cand{
		Harts: of(row{load(8, 0), fence(), store(8, 1)}, nil, row{fence(), amo(8, 0, 1), lr(8, 0), sc(8, 1, 2), fence()}),
		From:  []int{-1, -1, -1, -1, -1, -1, -1, -1},
	}
	memory := []int{0, 2, 4, 5, 6}
	d := dice(3)
	for range 50 {
		c.Order = d.shuffled(memory)
		hold(t, c, true)
		was := slices.Clone(c.Order)
		for place := range was {
			// One left out.
			c.Order = slices.Delete(slices.Clone(was), place, place+1)
			hold(t, c, false)
			// A number instead of another one, a number more: one that is there, a fence's, one that is not there.
			for _, n := range append(noNumbers(8), -1, 0, 1, 2, 3, 4, 5, 6, 7) {
				c.Order = slices.Clone(was)
				c.Order[place] = n
				hold(t, c, n == was[place])
				c.Order = slices.Insert(slices.Clone(was), place, n)
				hold(t, c, false)
				c.Order = append(slices.Clone(was), n)
				hold(t, c, false)
			}
		}
		// What is in the room to spare is not in the order.
		c.Order = append(slices.Clone(was[:4]), was[4])[:4]
		hold(t, c, false)
	}
	c.Order = nil
	hold(t, c, false)
	c.Order = slices.Concat(memory, memory)
	hold(t, c, false)
	c.Order = make([]int, 1<<16)
	hold(t, c, false)
	c.Order = slices.Repeat([]int{-1}, 5)
	hold(t, c, false)
}

func TestOfMany(t *testing.T) {
	d := dice(4)
	for range 1500 {
		hold(t, d.cand(), true)
	}
}

// spoil changes something of a candidate, mostly so that it may not be.
func (d *dice) spoil(c *api.Cand) {
	n := func(l []int) int { return d.below(len(l) + 1) }
	number := pick(d, -2, -1, 0, 1, 2, 3, len(c.From)-1, len(c.From), math.MinInt, math.MaxInt, 1<<32)
	switch d.below(9) {
	case 0:
		c.First = append(c.First, api.Cell{Addr: d.addr(), Value: d.value()})
	case 1:
		if len(c.First) > 0 {
			c.First[d.below(len(c.First))].Addr += uint64(pick(d, 1, 4, 8, 16))
		}
	case 2:
		c.From = slices.Insert(c.From, n(c.From), number)
	case 3, 4:
		if len(c.From) > 0 {
			c.From[d.below(len(c.From))] = number
		}
	case 5:
		c.Order = slices.Insert(c.Order, n(c.Order), number)
	case 6:
		if len(c.Order) > 0 {
			c.Order[d.below(len(c.Order))] = number
		}
	case 7:
		c.Harts = append(c.Harts, pick(d, nil, c.Harts[0]))
	default:
		d.spoilEvent(c.Harts[d.below(len(c.Harts))])
	}
}

// spoilEvent changes one of a row's events, if there is one.
func (d *dice) spoilEvent(l []api.Event) {
	if len(l) == 0 {
		return
	}
	e := &l[d.below(len(l))]
	switch d.below(6) {
	case 0:
		e.Hart++
	case 1:
		e.Addr += uint64(pick(d, 4, 8, 16))
	case 2:
		e.Load = d.value()
	case 3:
		e.Store = d.value()
	case 4:
		e.Kind = 1 + d.below(6)
	default:
		e.Deps.Way = []int{e.At - d.below(2)}
	}
}

func TestOfManyThatAreSpoilt(t *testing.T) {
	d := dice(5)
	right := 0
	const many = 12000
	for range many {
		c := copied(d.cand())
		d.spoil(&c)
		may := plainCheck(c)
		if may {
			right++
		}
		hold(t, c, may)
	}
	if right < many/20 || right > many/2 {
		t.Errorf("%d of %d may be", right, many)
	}
}
