package event_test

import (
	"math"
	"testing"

	"fencepost/api"
	"fencepost/event"
)

// P7.3: Text

func TestText(t *testing.T) {
	for _, c := range []struct {
		e    api.Event
		want string
	}{
		{api.Event{Hart: 0, At: 0, Kind: api.EvLoad}, "0:0 load 0000000000000000 r0"},
		{api.Event{Hart: 7, At: 9, Kind: api.EvLoad, Addr: 8, Load: 9}, "7:9 load 0000000000000008 r9"},
		{api.Event{Hart: 1, At: 10, Kind: api.EvLoad, Addr: 16, Load: 10}, "1:10 load 0000000000000010 ra"},
		{api.Event{Hart: 7, At: math.MaxInt, Kind: api.EvLoad, Addr: math.MaxUint64 - 7, Load: math.MaxUint64}, "7:9223372036854775807 load fffffffffffffff8 rffffffffffffffff"},
		{api.Event{Hart: 2, At: 3, Kind: api.EvStore, Addr: 0x123456789abcdef8, Store: 0xfedcba9876543210}, "2:3 store 123456789abcdef8 wfedcba9876543210"},
		{api.Event{Hart: 2, At: 3, Kind: api.EvStore, Addr: 0xa8}, "2:3 store 00000000000000a8 w0"},
		{api.Event{Hart: 3, At: 4, Kind: api.EvLR, Addr: 4096, Load: 0x1f}, "3:4 lr 0000000000001000 r1f"},
		{api.Event{Hart: 3, At: 4, Kind: api.EvLR, Addr: 4096, Load: 0x1f, Aq: true, Rl: true, Deps: api.Deps{Addr: []int{1}, Way: []int{2}}}, "3:4 lr 0000000000001000 r1f"},
		{api.Event{Hart: 4, At: 99, Kind: api.EvSC, Addr: 1 << 63, Store: 1 << 63, Pair: 98}, "4:99 sc 8000000000000000 w8000000000000000"},
		{api.Event{Hart: 4, At: 5, Kind: api.EvSC, Addr: 8, Store: 15, Rl: true, Deps: api.Deps{Data: []int{0}}}, "4:5 sc 0000000000000008 wf"},
		{api.Event{Hart: 5, At: 6, Kind: api.EvAmo, Addr: 8, Load: 16, Store: 17}, "5:6 amo 0000000000000008 r10 w11"},
		{api.Event{Hart: 5, At: 6, Kind: api.EvAmo, Addr: 8, Aq: true}, "5:6 amo 0000000000000008 r0 w0"},
		{api.Event{Hart: 5, At: 4096, Kind: api.EvAmo, Addr: 8, Load: 0, Store: math.MaxUint64}, "5:4096 amo 0000000000000008 r0 wffffffffffffffff"},
		{api.Event{Hart: 6, At: 1, Kind: api.EvFence, Pred: 3, Succ: 3}, "6:1 fence"},
		{api.Event{Hart: 0, At: 0, Kind: api.EvFence}, "0:0 fence"},
		{api.Event{Hart: 0, At: 100, Kind: api.EvFence, Pred: 15, Succ: 15}, "0:100 fence"},
	} {
		if got := event.Text(c.e); got != c.want {
			t.Errorf("Text(%+v) = %q, want %q", c.e, got, c.want)
		}
	}
}

func TestTextOfAllDigits(t *testing.T) {
	for _, x := range numbers() {
		for _, k := range kinds() {
			e := base(k)
			if k.memory() {
				e.Addr = x &^ 7
			}
			if k.reads {
				e.Load = x
			}
			if k.writes {
				e.Store = ^x
			}
			if got, want := event.Text(e), plainText(e); got != want || want == "" {
				t.Errorf("Text(%+v) = %q, want %q", e, got, want)
			}
		}
	}
}

func TestTextOfOneThatMayNotBe(t *testing.T) {
	for _, e := range []api.Event{
		{}, {Kind: 7}, {Kind: -1}, {Kind: math.MaxInt}, {Kind: math.MinInt},
		{Kind: api.EvLoad, Hart: 8}, {Kind: api.EvLoad, Hart: -1}, {Kind: api.EvLoad, At: -1}, {Kind: api.EvLoad, Addr: 4}, {Kind: api.EvLoad, Store: 1}, {Kind: api.EvLoad, Aq: true},
		{Kind: api.EvStore, Load: 1}, {Kind: api.EvSC}, {Kind: api.EvSC, At: 1, Pair: 1}, {Kind: api.EvAmo, Pred: 1}, {Kind: api.EvFence, Addr: 8}, {Kind: api.EvFence, Pred: 16},
		{Kind: api.EvStore, Deps: api.Deps{Data: []int{0}}}, {Kind: api.EvLoad, At: 3, Deps: api.Deps{Data: []int{0}}},
	} {
		if got := event.Text(e); got != "" {
			t.Errorf("Text(%+v) = %q", e, got)
		}
	}
}

func TestTextOfMany(t *testing.T) {
	for e := range events(8, 20000) {
		if got, want := event.Text(e), plainText(e); got != want {
			t.Errorf("Text(%+v) = %q, want %q", e, got, want)
		}
	}
}

// The chapter's examples.
func TestExamples(t *testing.T) {
	load := api.Event{Hart: 1, At: 2, Kind: api.EvLoad, Addr: 4096, Load: 10}
	if got := event.Text(load); got != "1:2 load 0000000000001000 ra" {
		t.Errorf("Text of hart 1's third = %q", got)
	}
	fence := api.Event{Kind: api.EvFence}
	if got := event.Text(fence); got != "0:0 fence" {
		t.Errorf("Text of hart 0's first = %q", got)
	}
}

// T6: what was asked ahead does not matter.
func TestAnswersAreNotOfWhatCameAhead(t *testing.T) {
	for range 3 {
		event.Check(api.Event{Kind: math.MaxInt})
		event.Row(1, placed(1, lr(8), sc(8, 0)))
		event.Of(0, 9, api.Ask{Kind: 9}, 1, 2, someDeps())
		event.Text(api.Event{Kind: -1})
		holdRow(t, 1, placed(1, sc(8, 0)), false)
		holdRow(t, 1, placed(1, load(8), lr(8), sc(8, 1)), true)
		holdOf(t, 0, 0, api.Ask{Kind: api.AskLoad, Addr: 8}, 3, 0, api.Deps{}, api.Event{Kind: api.EvLoad, Addr: 8, Load: 3})
	}
}
