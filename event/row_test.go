package event_test

import (
	"math"
	"slices"
	"testing"

	"fencepost/api"
	"fencepost/event"
)

// P7.1: Row; P7.4: a first part of a row is one

// holdRow holds a list to be a hart's row, or none.
func holdRow(t *testing.T, hart int, l []api.Event, is bool) {
	t.Helper()
	want := api.ErrBad
	if is {
		want = api.OK
	}
	if err := event.Row(hart, l); err != want {
		t.Errorf("Row(%d, %+v) = %d, want %d", hart, l, err, want)
	}
}

// Events whose hart and place are told by placed.
func load(addr uint64) api.Event  { return api.Event{Kind: api.EvLoad, Addr: addr, Load: 5} }
func store(addr uint64) api.Event { return api.Event{Kind: api.EvStore, Addr: addr, Store: 5} }
func lr(addr uint64) api.Event    { return api.Event{Kind: api.EvLR, Addr: addr, Load: 5} }
func amo(addr uint64) api.Event   { return api.Event{Kind: api.EvAmo, Addr: addr, Load: 5, Store: 6} }
func fence() api.Event            { return api.Event{Kind: api.EvFence, Pred: 3, Succ: 3} }
func sc(addr uint64, pair int) api.Event {
	return api.Event{Kind: api.EvSC, Addr: addr, Store: 7, Pair: pair}
}

// placed answers a hart's events, one behind the other.
func placed(hart int, l ...api.Event) []api.Event {
	for at := range l {
		l[at].Hart, l[at].At = hart, at
	}
	return l
}

func TestEmptyRows(t *testing.T) {
	for hart := range api.MaxHarts {
		holdRow(t, hart, nil, true)
		holdRow(t, hart, []api.Event{}, true)
		holdRow(t, hart, placed(hart, lr(9))[:0], true)
	}
}

func TestRows(t *testing.T) {
	for hart := range api.MaxHarts {
		for _, l := range [][]api.Event{
			{load(8)},
			{fence()},
			{store(8), load(8), amo(16), fence(), lr(8)},
			{lr(8), lr(8), lr(16)},
			{lr(8), sc(8, 0)},
			{lr(8), load(8), store(8), amo(8), fence(), sc(8, 0)},
			{lr(8), sc(8, 0), lr(8), sc(8, 2), load(16), lr(16), fence(), sc(16, 5)},
			{lr(8), lr(16), sc(16, 1)},
			{lr(8), lr(8), sc(8, 1)},
			{fence(), lr(0), sc(0, 1), lr(math.MaxUint64 - 7), sc(math.MaxUint64-7, 3)},
		} {
			holdRow(t, hart, placed(hart, l...), true)
		}
	}
}

func TestRowOfAnotherHart(t *testing.T) {
	for hart := range api.MaxHarts {
		l := placed(hart, load(8), lr(8), sc(8, 1), fence())
		for other := -1; other <= api.MaxHarts; other++ {
			holdRow(t, other, l, other == hart)
		}
		for at := range l {
			one := slices.Clone(l)
			one[at].Hart = (hart + 1) % api.MaxHarts
			holdRow(t, hart, one, false)
			holdRow(t, one[at].Hart, one, false)
		}
	}
	// A hart that there is none of has no events.
	for _, hart := range []int{-1, 8, math.MinInt, math.MaxInt} {
		holdRow(t, hart, placed(hart, load(8)), false)
		holdRow(t, hart, placed(hart, fence()), false)
	}
}

func TestRowOfEventsThatStandElsewhere(t *testing.T) {
	l := placed(2, load(8), store(8), fence(), amo(8), fence())
	for at := range l {
		for _, other := range []int{at - 1, at + 1, at + 5, -1, math.MaxInt} {
			if other == at {
				continue
			}
			one := slices.Clone(l)
			one[at].At = other
			holdRow(t, 2, one, false)
		}
		if at > 0 {
			holdRow(t, 2, l[at:], false)
			one := slices.Clone(l)
			one[at], one[at-1] = one[at-1], one[at]
			holdRow(t, 2, one, false)
			holdRow(t, 2, slices.Delete(slices.Clone(l), at-1, at), false)
			holdRow(t, 2, slices.Insert(slices.Clone(l), at, l[at]), false)
		}
	}
}

func TestRowOfAnEventThatMayNotBe(t *testing.T) {
	l := placed(1, load(8), lr(8), store(16), sc(8, 1), fence())
	holdRow(t, 1, l, true)
	for at := range l {
		for _, change := range []func(e *api.Event){
			func(e *api.Event) { e.Kind = 0 }, func(e *api.Event) { e.Kind = 7 }, func(e *api.Event) { e.Addr += 4 },
			func(e *api.Event) { e.Deps.Addr = []int{at} }, func(e *api.Event) { e.Deps.Way = []int{-1} }, func(e *api.Event) { e.Pred = 16 },
			func(e *api.Event) { e.Pair += 9 }, func(e *api.Event) { e.Load, e.Store, e.Pred = 1, 1, 1 },
		} {
			one := slices.Clone(l)
			change(&one[at])
			holdRow(t, 1, one, false)
		}
	}
}

func TestRowOfWrongPairs(t *testing.T) {
	for _, l := range [][]api.Event{
		// The pair is no lr.
		{load(8), sc(8, 0)},
		{store(8), sc(8, 0)},
		{amo(8), sc(8, 0)},
		{fence(), sc(8, 0)},
		{lr(8), load(8), sc(8, 1)},
		{load(8), lr(8), sc(8, 0)},
		{lr(8), sc(8, 0), sc(8, 1)},
		// It has another address.
		{lr(8), sc(16, 0)},
		{lr(16), sc(8, 0)},
		{lr(8), lr(16), sc(8, 1)},
		{lr(0), sc(1<<63, 0)},
		// It was used already.
		{lr(8), sc(8, 0), sc(8, 0)},
		{lr(8), sc(8, 0), load(8), sc(8, 0)},
		// An lr is between.
		{lr(8), lr(8), sc(8, 0)},
		{lr(8), lr(16), sc(8, 0)},
		{lr(8), fence(), lr(16), fence(), sc(8, 0)},
		// An sc is between.
		{lr(8), lr(16), sc(16, 1), sc(8, 0)},
		{lr(8), sc(8, 0), lr(16), sc(16, 2), sc(8, 0)},
		// There is none.
		{sc(8, 0)},
		{sc(8, -1)},
		{lr(8), sc(8, 1)},
		{lr(8), sc(8, 2)},
		{lr(8), sc(8, -1)},
		{lr(8), sc(8, 0), sc(8, -1)},
		{load(8), sc(8, -1)},
		{load(8), sc(8, 1), lr(8)},
	} {
		row := placed(4, l...)
		holdRow(t, 4, row, false)
		// Not made good by what stands behind it.
		holdRow(t, 4, placed(4, slices.Concat(row, []api.Event{lr(8), sc(8, len(row))})...), false)
	}
}

// allRows goes through all rows of these events; an sc gets each place as its pair, its own too.
func allRows(length int, yield func([]api.Event)) {
	var grow func(l []api.Event)
	grow = func(l []api.Event) {
		yield(placed(5, slices.Clone(l)...))
		if len(l) == length {
			return
		}
		for _, e := range []api.Event{load(8), lr(8), lr(16), fence()} {
			grow(append(l, e))
		}
		for pair := range len(l) + 1 {
			grow(append(l, sc(8, pair)))
			grow(append(l, sc(16, pair)))
		}
	}
	grow(nil)
}

func TestAllShortRows(t *testing.T) {
	rows, right := 0, 0
	allRows(5, func(l []api.Event) {
		is := plainRow(5, l)
		holdRow(t, 5, l, is)
		rows++
		if is {
			right++
		}
	})
	if rows < 50000 || right < 1000 {
		t.Errorf("%d rows, %d of them right", rows, right)
	}
}

func TestFirstPartsOfRowsAreRows(t *testing.T) {
	allRows(4, func(l []api.Event) {
		if event.Row(5, l) != api.OK {
			return
		}
		for upTo := range l {
			holdRow(t, 5, l[:upTo], true)
		}
	})
}

func TestLongRow(t *testing.T) {
	var l []api.Event
	for n := range 1 << 12 {
		l = append(l, load(8), fence(), lr(uint64(8*n)), store(8), sc(uint64(8*n), 5*n+2))
	}
	placed(0, l...)
	for at := range l {
		if l[at].Kind != api.EvFence && at > 2 {
			l[at].Deps.Way = []int{at / 2, at - 1}[at%2:]
		}
	}
	last := len(l) - 1
	for pair, want := range map[int]api.Errno{l[last].Pair: api.OK, l[last].Pair - 5: api.ErrBad} {
		l[last].Pair = pair
		if err := event.Row(0, l); err != want {
			t.Errorf("a long row with the pair %d at its end: %d", pair, err)
		}
	}
}

func TestRowChangesNothing(t *testing.T) {
	var l []api.Event
	for _, k := range kinds() {
		e := base(k)
		l = append(l, e)
	}
	was := slices.Clone(l)
	for hart := -1; hart <= 8; hart++ {
		event.Row(hart, l)
		event.Row(hart, l[:0])
	}
	if !slices.EqualFunc(l, was, plainSame) {
		t.Errorf("a row changed")
	}
}
