package event_test

import (
	"math"
	"slices"
	"testing"

	"fencepost/alu"
	"fencepost/api"
	"fencepost/event"
	"fencepost/hart"
	"fencepost/insn"
	"fencepost/taint"
)

// P7.2: Of; P7.4: what an ask makes may be, and has what was asked for

// someDeps answers deps of an event at 9.
func someDeps() api.Deps {
	return api.Deps{Addr: roomy(2, 5), Data: roomy(0, 5, 8), Way: roomy(1)}
}

// holdOf holds Of against an event, or, if it has no Kind, to be refused.
func holdOf(t *testing.T, hart, at int, a api.Ask, found uint64, pair int, d api.Deps, want api.Event) {
	t.Helper()
	wantErr := api.OK
	if want.Kind == 0 {
		wantErr = api.ErrArg
	}
	got, err := event.Of(hart, at, a, found, pair, d)
	if err != wantErr || !plainSame(got, want) {
		t.Errorf("Of(%d, %d, %+v, %d, %d, %v) = %+v, %d, want %+v, %d", hart, at, a, found, pair, d, got, err, want, wantErr)
	}
}

func TestOfEachAsk(t *testing.T) {
	d := someDeps()
	for _, c := range []struct {
		ask  api.Ask
		want api.Event
	}{
		{api.Ask{Kind: api.AskLoad, Addr: 4096}, api.Event{Kind: api.EvLoad, Addr: 4096, Load: 77, Deps: api.Deps{Addr: d.Addr, Way: d.Way}}},
		{api.Ask{Kind: api.AskStore, Addr: 4096, Value: 5}, api.Event{Kind: api.EvStore, Addr: 4096, Store: 5, Deps: d}},
		{api.Ask{Kind: api.AskLR, Addr: 4096}, api.Event{Kind: api.EvLR, Addr: 4096, Load: 77, Deps: api.Deps{Addr: d.Addr, Way: d.Way}}},
		{api.Ask{Kind: api.AskLR, Addr: 4096, Aq: true}, api.Event{Kind: api.EvLR, Addr: 4096, Load: 77, Aq: true, Deps: api.Deps{Addr: d.Addr, Way: d.Way}}},
		{api.Ask{Kind: api.AskSC, Addr: 4096, Value: 5}, api.Event{Kind: api.EvSC, Addr: 4096, Store: 5, Pair: 6, Deps: d}},
		{api.Ask{Kind: api.AskSC, Addr: 4096, Value: 5, Rl: true}, api.Event{Kind: api.EvSC, Addr: 4096, Store: 5, Rl: true, Pair: 6, Deps: d}},
		{api.Ask{Kind: api.AskAmo, Addr: 4096, Value: 5, Op: api.RvAmoaddD, Aq: true, Rl: true}, api.Event{Kind: api.EvAmo, Addr: 4096, Load: 77, Store: 82, Aq: true, Rl: true, Deps: d}},
		{api.Ask{Kind: api.AskAmo, Addr: 4096, Value: 5, Op: api.RvAmoswapD}, api.Event{Kind: api.EvAmo, Addr: 4096, Load: 77, Store: 5, Deps: d}},
		{api.Ask{Kind: api.AskFence, Pred: 1, Succ: 2}, api.Event{Kind: api.EvFence, Pred: 1, Succ: 2}},
		{api.Ask{Kind: api.AskFence, Pred: 15}, api.Event{Kind: api.EvFence, Pred: 15}},
		{api.Ask{Kind: api.AskFence}, api.Event{Kind: api.EvFence}},
	} {
		for _, hart := range []int{0, 3, 7} {
			c.want.Hart, c.want.At = hart, 9
			holdOf(t, hart, 9, c.ask, 77, 6, d, c.want)
		}
	}
}

func TestOfEachAmo(t *testing.T) {
	for op := api.RvAmoswapW; op <= api.RvAmomaxuD; op++ {
		for _, found := range numbers() {
			for _, b := range numbers() {
				stores, err := alu.Amo(op, found, b)
				if err != api.OK {
					t.Fatalf("op %d is no amo", op)
				}
				a := api.Ask{Kind: api.AskAmo, Addr: 64, Value: b, Op: op}
				holdOf(t, 2, 0, a, found, 0, api.Deps{}, api.Event{Hart: 2, Kind: api.EvAmo, Addr: 64, Load: found, Store: stores})
			}
		}
	}
	// Of 32 bits what is stored is signed, what was found is all that it is.
	a := api.Ask{Kind: api.AskAmo, Value: 1, Op: api.RvAmoaddW}
	holdOf(t, 0, 0, a, 0xabcd7fffffff, 0, api.Deps{}, api.Event{Kind: api.EvAmo, Load: 0xabcd7fffffff, Store: 0xffffffff80000000})
}

func TestOfAnAmoThatThereIsNot(t *testing.T) {
	ops := []int{0, -1, api.RvScD, api.RvScW, api.RvLrD, api.RvLrW, api.RvAdd, api.RvLd, api.RvSd, api.RvFence, api.RvAmomaxuD + 1, 1 << 32, math.MinInt, math.MaxInt}
	for _, op := range ops {
		a := api.Ask{Kind: api.AskAmo, Addr: 8, Value: 1, Op: op}
		holdOf(t, 0, 0, a, 5, 0, api.Deps{}, api.Event{})
		// Of another ask the op is not looked at.
		a.Kind = api.AskStore
		holdOf(t, 0, 0, a, 5, 0, api.Deps{}, api.Event{Kind: api.EvStore, Addr: 8, Store: 1})
	}
}

func TestOfAnotherAsk(t *testing.T) {
	for _, kind := range []int{api.AskNone, api.AskOut, api.AskMark, 9, 10, -1, -2, 256 + 1, 1<<32 + 1, math.MinInt, math.MaxInt} {
		holdOf(t, 0, 9, api.Ask{Kind: kind}, 0, 0, api.Deps{}, api.Event{})
		holdOf(t, 1, 9, api.Ask{Kind: kind, Addr: 8, Value: 4, Op: api.RvAmoaddD}, 3, 4, someDeps(), api.Event{})
		holdOf(t, 1, 9, api.Ask{Kind: kind, Op: 3, Value: 7, Pred: 3, Succ: 3}, 3, 4, someDeps(), api.Event{})
	}
}

func TestOfLooksAtNothingElse(t *testing.T) {
	d := someDeps()
	wrong := []int{5, 5, -1, 99}
	for _, c := range []struct {
		ask   api.Ask
		found uint64
		pair  int
		deps  api.Deps
		want  api.Event
	}{
		// A load's value, op, parts, pair, data.
		{api.Ask{Kind: api.AskLoad, Addr: 16, Value: 5, Op: 3, Pred: 16, Succ: -1}, 77, -1, api.Deps{Addr: d.Addr, Data: d.Data, Way: d.Way}, api.Event{Kind: api.EvLoad, Addr: 16, Load: 77, Deps: api.Deps{Addr: d.Addr, Way: d.Way}}},
		{api.Ask{Kind: api.AskLoad, Addr: 16}, 77, 99, api.Deps{Addr: d.Addr, Data: wrong, Way: d.Way}, api.Event{Kind: api.EvLoad, Addr: 16, Load: 77, Deps: api.Deps{Addr: d.Addr, Way: d.Way}}},
		// A store's op, parts, pair, what was found.
		{api.Ask{Kind: api.AskStore, Addr: 16, Value: 5, Op: -3, Pred: 1, Succ: 99}, 77, 4, d, api.Event{Kind: api.EvStore, Addr: 16, Store: 5, Deps: d}},
		// An lr's likewise.
		{api.Ask{Kind: api.AskLR, Addr: 16, Value: 5, Op: 80, Aq: true, Pred: 3, Succ: 3}, 77, 99, api.Deps{Data: wrong}, api.Event{Kind: api.EvLR, Addr: 16, Load: 77, Aq: true}},
		// An sc's.
		{api.Ask{Kind: api.AskSC, Addr: 16, Value: 5, Op: 80, Rl: true, Pred: 3, Succ: 16}, 77, 4, d, api.Event{Kind: api.EvSC, Addr: 16, Store: 5, Rl: true, Pair: 4, Deps: d}},
		// An amo's.
		{api.Ask{Kind: api.AskAmo, Addr: 16, Value: 5, Op: api.RvAmomaxD, Pred: 99, Succ: -4}, 77, 99, d, api.Event{Kind: api.EvAmo, Addr: 16, Load: 77, Store: 77, Deps: d}},
		// All of a fence but its parts.
		{api.Ask{Kind: api.AskFence, Addr: 17, Value: 5, Op: 80, Aq: true, Rl: true, Pred: 1, Succ: 8}, 77, -9, api.Deps{Addr: wrong, Data: wrong, Way: wrong}, api.Event{Kind: api.EvFence, Pred: 1, Succ: 8}},
		{api.Ask{Kind: api.AskFence, Pred: 15, Succ: 15}, 77, 4, d, api.Event{Kind: api.EvFence, Pred: 15, Succ: 15}},
	} {
		c.want.Hart, c.want.At = 6, 9
		holdOf(t, 6, 9, c.ask, c.found, c.pair, c.deps, c.want)
	}
}

func TestOfLoadsAndStoresWithMarks(t *testing.T) {
	// An event of memory's has its ask's marks: a load or a store that has one may not be.
	for _, kind := range []int{api.AskLoad, api.AskStore} {
		for _, marks := range [][2]bool{{true, false}, {false, true}, {true, true}} {
			holdOf(t, 0, 9, api.Ask{Kind: kind, Addr: 8, Aq: marks[0], Rl: marks[1]}, 1, 0, someDeps(), api.Event{})
		}
	}
}

// rightAsks are one of each kind that makes an event.
func rightAsks() []api.Ask {
	return []api.Ask{
		{Kind: api.AskLoad, Addr: 16}, {Kind: api.AskStore, Addr: 16, Value: 5}, {Kind: api.AskLR, Addr: 16, Aq: true}, {Kind: api.AskSC, Addr: 16, Value: 5, Rl: true},
		{Kind: api.AskAmo, Addr: 16, Value: 5, Op: api.RvAmoaddD, Aq: true, Rl: true}, {Kind: api.AskFence, Pred: 3, Succ: 1},
	}
}

func TestOfAnEventThatMayNotBe(t *testing.T) {
	for _, a := range rightAsks() {
		for _, hart := range []int{-1, 8, math.MinInt, math.MaxInt} {
			holdOf(t, hart, 9, a, 1, 0, api.Deps{}, api.Event{})
		}
		for _, at := range []int{-1, math.MinInt} {
			holdOf(t, 0, at, a, 1, at-1, api.Deps{}, api.Event{})
			holdOf(t, 0, at, a, 1, 0, api.Deps{}, api.Event{})
		}
		for offset := uint64(1); offset < 8 && a.Kind != api.AskFence; offset++ {
			crooked := a
			crooked.Addr += offset
			holdOf(t, 0, 9, crooked, 1, 0, api.Deps{}, api.Event{})
		}
	}
	for _, set := range []int{-1, 16, math.MinInt, math.MaxInt} {
		holdOf(t, 0, 0, api.Ask{Kind: api.AskFence, Pred: set}, 0, 0, api.Deps{}, api.Event{})
		holdOf(t, 0, 0, api.Ask{Kind: api.AskFence, Succ: set}, 0, 0, api.Deps{}, api.Event{})
	}
	for _, pair := range []int{-1, 9, 10, math.MinInt, math.MaxInt} {
		holdOf(t, 0, 9, rightAsks()[3], 0, pair, api.Deps{}, api.Event{})
	}
	holdOf(t, 0, 0, rightAsks()[3], 0, 0, api.Deps{}, api.Event{})
}

func TestOfDepsThatMayNotBe(t *testing.T) {
	for _, a := range rightAsks()[:5] {
		k, _ := kindOf(a.Kind)
		for _, l := range [][]int{{1, 0}, {3, 3}, {-1}, {0, -1}, {9}, {0, 9}, {10}, {math.MaxInt}, {math.MinInt, 3}} {
			holdOf(t, 0, 9, a, 1, 0, api.Deps{Addr: l}, api.Event{})
			holdOf(t, 0, 9, a, 1, 0, api.Deps{Way: l}, api.Event{})
			if _, err := event.Of(0, 9, a, 1, 0, api.Deps{Data: l}); (err == api.OK) != !k.has("Deps.Data") {
				t.Errorf("%s with Data %v: %d", k.name, l, err)
			}
		}
	}
}

// asks goes on with asks, right and wrong ones.
func (d *dice) ask() api.Ask {
	a := api.Ask{Kind: 1 + d.below(6), Addr: pick(d, numbers()...), Value: pick(d, numbers()...), Op: api.RvScD - 1 + d.below(21)}
	a.Pred, a.Succ = pick(d, 0, 1, 3, 15, 15, 16, -1), pick(d, 0, 1, 3, 15, 15, 16, -1)
	if d.below(4) > 0 {
		a.Addr &^= 7
	}
	if a.Kind > 2 || d.below(10) == 0 {
		a.Aq, a.Rl = d.below(2) == 0, d.below(2) == 0
	}
	if d.below(20) == 0 {
		a.Kind = pick(d, 0, 7, 8, 9, -1, math.MaxInt)
	}
	return a
}

func TestOfMany(t *testing.T) {
	d := dice(7)
	right := 0
	const many = 40000
	for range many {
		hart, at, a, found, pair := pick(&d, 0, 1, 2, 6, 7, 7, 0, 8, -1), pick(&d, 0, 1, 5, 9, 9, 12, -1), d.ask(), pick(&d, numbers()...), pick(&d, 0, 1, 4, 9, -1)
		deps := api.Deps{Addr: d.list(at), Data: d.list(at), Way: d.list(at)}
		want, is := plainOf(hart, at, a, found, pair, deps)
		holdOf(t, hart, at, a, found, pair, deps, want)
		if !is {
			continue
		}
		right++
		e, _ := event.Of(hart, at, a, found, pair, deps)
		holdCheck(t, e, true)
		holdAsked(t, e, a, found)
	}
	if right < many/4 {
		t.Errorf("%d of %d asks make an event", right, many)
	}
}

// holdAsked holds an event to have what was asked for.
func holdAsked(t *testing.T, e api.Event, a api.Ask, found uint64) {
	t.Helper()
	if event.Memory(e) && (e.Addr != a.Addr || e.Aq != a.Aq || e.Rl != a.Rl) || !event.Memory(e) && (e.Pred != a.Pred || e.Succ != a.Succ) {
		t.Errorf("%+v was asked, %+v made", a, e)
	}
	if event.Reads(e) && e.Load != found || event.Writes(e) && !event.Reads(e) && e.Store != a.Value {
		t.Errorf("%+v was asked with %d, %+v made", a, found, e)
	}
}

// What a hart asks, with the deps that taint tells, makes events that may be.
func TestOfWhatAHartAsks(t *testing.T) {
	h, ta := hart.New(0), taint.New()
	for x := 1; x < 32; x++ {
		h.X[x] = uint64(8 * x)
	}
	var row []api.Event
	for at, text := range []string{
		"ld x5, 8(x6)", "sd x5, 0(x7)", "lr.d.aq x8, (x9)", "sc.d.rl x10, x5, (x9)", "amoadd.d.aqrl x11, x8, (x12)", "fence rw, w", "sd x11, -8(x31)", "lr.d x1, (x2)", "sc.d.aqrl x3, x1, (x2)", "amomaxu.d x4, x5, (x6)", "fence 0, iorw",
	} {
		i, err := insn.Read(text)
		if err != api.OK {
			t.Fatalf("%q is no text", text)
		}
		a, _ := hart.Ask(h, i)
		after, deps, _ := taint.Step(ta, i, at)
		e, err := event.Of(1, at, a, 40, at-1, deps)
		if err != api.OK || event.Check(e) != api.OK {
			t.Fatalf("%q, asked as %+v, makes %+v, %d", text, a, e, err)
		}
		holdAsked(t, e, a, 40)
		row = append(row, e)
		h, _ = hart.Step(h, i, 40, true)
		ta = after
	}
	holdRow(t, 1, row, true)
	if d := row[1].Deps; !slices.Equal(d.Data, []int{0}) {
		t.Errorf("the store hangs on %v", d)
	}
}

// Rule 3: an answer is new memory, what was handed in stays as it was.
func TestOfSharesNoMemory(t *testing.T) {
	l := []int{0, 1, 2, 3, 4, 5, 6, 7, 8}
	for _, d := range []api.Deps{
		someDeps(), {}, {Addr: []int{}, Data: []int{}, Way: []int{}},
		// All of one memory, the empty ones too.
		{Addr: l, Data: l, Way: l}, {Addr: l[:3], Data: l[1:5], Way: l[2:4]}, {Addr: l[:0], Data: l[:0], Way: l[:0]}, {Addr: l[:0], Data: l[1:2], Way: l[3:3]},
	} {
		for _, a := range rightAsks() {
			was := whole([]*[]int{&d.Addr, &d.Data, &d.Way, &l})
			e, err := event.Of(0, 9, a, 1, 0, d)
			if err != api.OK {
				t.Fatalf("%+v: %d", a, err)
			}
			in := []*[]int{&d.Addr, &d.Data, &d.Way, &l}
			if !sameLists(was, whole(in)) {
				t.Fatalf("%+v changed what was handed in", a)
			}
			holdApart(t, lists(&e), in)
			holdOf(t, 0, 9, a, 1, 0, d, e)
		}
	}
}

// holdApart holds that nothing that is written into one of these lists, or into its room to spare, is to be seen in another one.
func holdApart(t *testing.T, answered, handed []*[]int) {
	t.Helper()
	every := append(slices.Clone(answered), handed...)
	for at, p := range answered {
		before := whole(every)
		room := (*p)[:cap(*p)]
		for n := range room {
			room[n] = -77
		}
		for other, now := range whole(every) {
			if other != at && !slices.Equal(now, before[other]) {
				t.Fatalf("list %d of the answer shares memory with list %d", at, other)
			}
		}
		copy(room, before[at])
	}
}

func TestOfKeepsNothing(t *testing.T) {
	for _, a := range rightAsks() {
		d := someDeps()
		e, _ := event.Of(0, 9, a, 1, 0, d)
		for _, l := range [][]int{d.Addr, d.Data, d.Way} {
			clear(l[:cap(l)])
		}
		want, _ := plainOf(0, 9, a, 1, 0, someDeps())
		if !plainSame(e, want) {
			t.Errorf("%+v changed to %+v", want, e)
		}
	}
}
