package litmus_test

import (
	"slices"
	"testing"

	"fencepost/api"
	"fencepost/litmus"
)

// P13.2: Names, Named

func TestNames(t *testing.T) {
	want := []string{"sb", "mp", "lb", "corr", "sbf", "mpf", "lbd"}
	if got := litmus.Names(); !slices.Equal(got, want) {
		t.Errorf("%q", got)
	}
	for _, name := range litmus.Names() {
		if _, is := litmus.Named(name); !is {
			t.Errorf("there is no %s", name)
		}
	}
}

func TestNamed(t *testing.T) {
	// The words, as an assembler tells them.
	const (
		sd5at6, sd5at7     = 0x00533023, 0x0053b023
		ld10at6, ld10at7   = 0x00033503, 0x0003b503
		ld11at6            = 0x00033583
		sd10at6, sd10at7   = 0x00a33023, 0x00a3b023
		stop, wr, ww, rr   = 0x00100073, 0x0120000f, 0x0110000f, 0x0220000f
		hart0, hart1, none = 0, 1, -1
	)
	for _, x := range []struct {
		name  string
		words []uint32
		pc    uint64
		look  []int
	}{
		{"sb", []uint32{sd5at6, ld10at7, stop, sd5at7, ld10at6, stop}, 12, []int{0, 10, 1, 10}},
		{"mp", []uint32{sd5at6, sd5at7, stop, ld10at7, ld11at6, stop}, 12, []int{1, 10, 1, 11}},
		{"lb", []uint32{ld10at6, sd5at7, stop, ld10at7, sd5at6, stop}, 12, []int{0, 10, 1, 10}},
		{"corr", []uint32{sd5at6, stop, ld10at6, ld11at6, stop}, 8, []int{1, 10, 1, 11}},
		{"sbf", []uint32{sd5at6, wr, ld10at7, stop, sd5at7, wr, ld10at6, stop}, 16, []int{0, 10, 1, 10}},
		{"mpf", []uint32{sd5at6, ww, sd5at7, stop, ld10at7, rr, ld11at6, stop}, 16, []int{1, 10, 1, 11}},
		{"lbd", []uint32{ld10at6, sd10at7, stop, ld10at7, sd10at6, stop}, 12, []int{0, 10, 1, 10}},
	} {
		want := looking(api.Litmus{Image: api.Image{Words: x.words, Start: make([]api.Hart, 2)}}, x.look...)
		for number := range want.Image.Start {
			h := &want.Image.Start[number]
			h.X[5], h.X[6], h.X[7] = 1, 4096, 4104
		}
		want.Image.Start[1].PC = x.pc
		got, is := litmus.Named(x.name)
		if !is || told(got) != told(want) {
			t.Errorf("%s: %t, %s\nwant %s", x.name, is, tell(got), tell(want))
		}
		hold(t, got, true)
	}
}

func TestNamedOfOthers(t *testing.T) {
	for _, name := range []string{"", "s", "b", "SB", "Sb", "sb ", " sb", "sbb", "sbff", "sbd", "mpd", "lbf", "corrf", "cor", "coww", "iriw", "sb\x00", "sb,mp", "sb mp", "\xff", "mp\n"} {
		if got, is := litmus.Named(name); is || told(got) != told(api.Litmus{}) {
			t.Errorf("Named(%q) = %t, %s", name, is, tell(got))
		}
	}
}
