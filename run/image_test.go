package run_test

import (
	"math"
	"slices"
	"testing"

	"fencepost/api"
	"fencepost/insn"
	"fencepost/run"
)

// P8.1: Check, Fetch

// holdCheck tells whether an image may be, or may not be.
func holdCheck(t *testing.T, m api.Image, may bool) {
	t.Helper()
	want := api.ErrArg
	if may {
		want = api.OK
	}
	if err := run.Check(m); err != want {
		t.Errorf("Check of Base %d, %d words, %+v = %d, want %d", m.Base, len(m.Words), m.Start, err, want)
	}
	if plainCheck(m) != may {
		t.Errorf("the reference says otherwise of Base %d, %d words, %+v", m.Base, len(m.Words), m.Start)
	}
	// What may not be is refused by all that are asked about it.
	_, fetched := run.Fetch(m, m.Base+4*uint64(len(m.Words)))
	trace, ran := run.Run(m, 0, api.Picks{Loads: []uint64{1}, Steps: 1})
	if !may && (fetched != api.ErrArg || ran != api.ErrArg || told(trace) != told(api.Trace{}) || run.Needs(m, 0, api.Picks{Steps: 1}) != 0) {
		t.Errorf("Base %d, %d words, %+v: Fetch %d, Run %d, %s", m.Base, len(m.Words), m.Start, fetched, ran, told(trace))
	}
	if may && (fetched != api.ErrRange || ran != api.OK) {
		t.Errorf("Base %d, %d words, %+v: Fetch %d, Run %d", m.Base, len(m.Words), m.Start, fetched, ran)
	}
}

func TestCheckOfBases(t *testing.T) {
	for _, base := range []uint64{0, 4, 8, 12, 4096, 1<<20 + 4, 1 << 30, 1<<31 - 8, 1<<31 - 4} {
		holdCheck(t, api.Image{Base: base, Start: []api.Hart{at(base, nil)}}, true)
	}
	for _, base := range []uint64{
		1, 2, 3, 5, 6, 7, 4097, 4098, 1<<31 - 1, 1<<31 - 2, 1<<31 - 3, 1<<31 - 5,
		1 << 31, 1<<31 + 1, 1<<31 + 4, 1 << 32, 1<<32 + 4096, 1 << 63, math.MaxUint64 - 3, math.MaxUint64,
	} {
		holdCheck(t, api.Image{Base: base, Start: []api.Hart{at(base, nil)}}, false)
	}
}

func TestCheckOfWords(t *testing.T) {
	lots := make([]uint32, api.MaxCode+2)
	for _, many := range []int{0, 1, 2, 100, api.MaxCode - 1, api.MaxCode} {
		holdCheck(t, api.Image{Words: lots[:many], Start: []api.Hart{at(4, nil)}}, true)
		holdCheck(t, api.Image{Base: 1<<31 - 4, Words: lots[:many], Start: []api.Hart{at(4, nil)}}, true)
	}
	for _, many := range []int{api.MaxCode + 1, api.MaxCode + 2} {
		holdCheck(t, api.Image{Words: lots[:many], Start: []api.Hart{at(4, nil)}}, false)
	}
	// Words may be none's.
	holdCheck(t, api.Image{Words: []uint32{0, math.MaxUint32, 0x0000100f}, Start: []api.Hart{{}}}, true)
	holdCheck(t, api.Image{Words: []uint32{}, Start: []api.Hart{{}}}, true)
}

func TestCheckOfBeginnings(t *testing.T) {
	holdCheck(t, api.Image{}, false)
	holdCheck(t, api.Image{Words: words(t, "ecall")}, false)
	holdCheck(t, api.Image{Start: []api.Hart{}}, false)
	lots := make([]api.Hart, api.MaxHarts+2)
	for place := range lots {
		lots[place] = at(uint64(place), regs{1: 5, 31: math.MaxUint64})
	}
	holdCheck(t, api.Image{Start: lots[:0]}, false)
	for harts := 1; harts <= api.MaxHarts; harts++ {
		holdCheck(t, api.Image{Start: lots[:harts]}, true)
	}
	holdCheck(t, api.Image{Start: lots[:api.MaxHarts+1]}, false)
	holdCheck(t, api.Image{Start: lots}, false)
	// A hart may begin anywhere.
	for _, pc := range []uint64{1, 2, 1 << 31, math.MaxUint64} {
		holdCheck(t, api.Image{Base: 8, Start: []api.Hart{at(pc, nil)}}, true)
	}
}

func TestCheckOfBeginningsThatMayNotBe(t *testing.T) {
	bad := []api.Hart{
		at(0, regs{0: 1}), at(0, regs{0: 1 << 63}),
		{End: -1}, {End: 7}, {End: 1 << 32}, {End: math.MinInt},
		{Code: 1}, {Code: 1 << 63}, {End: api.EndBreak, Code: 1}, {End: api.EndFetch, Code: 9},
		// They ended.
		{End: api.EndHalt}, {End: api.EndHalt, Code: 7}, {End: api.EndBreak}, {End: api.EndCall},
		{End: api.EndAlign}, {End: api.EndSize}, {End: api.EndFetch},
	}
	for _, h := range bad {
		for harts := 1; harts <= api.MaxHarts; harts++ {
			for place := range harts {
				m := api.Image{Words: words(t, "ecall"), Start: make([]api.Hart, harts)}
				holdCheck(t, m, true)
				m.Start[place] = h
				holdCheck(t, m, false)
			}
		}
		// Those in the room to spare don't count.
		holdCheck(t, api.Image{Start: []api.Hart{{}, h}[:1]}, true)
	}
}

// holdFetch holds what is fetched at a PC: the instruction of a text, or nothing.
func holdFetch(t *testing.T, m api.Image, pc uint64, text string) {
	t.Helper()
	want, refused := api.Insn{}, api.ErrRange
	if text != "" {
		want, refused = insn.Read(text)
	}
	if got, err := run.Fetch(m, pc); got != want || err != refused {
		t.Errorf("Fetch at %#x, Base %#x = %+v, %d, want %+v, %d", pc, m.Base, got, err, want, refused)
	}
	// A hart that begins there does it, or ends.
	m.Start = []api.Hart{at(pc, regs{17: 2})}
	got := must(t, m, 0, api.Picks{Steps: 1})
	if (got.End.End == api.EndFetch) != (text == "") || got.Steps != 1 {
		t.Errorf("a run from %#x, Base %#x: %s", pc, m.Base, told(got))
	}
}

func TestFetch(t *testing.T) {
	lines := []string{"addi x5, x6, -3", "sd x7, 8(x2)", ".00000000", "beq x1, x2, -4", "fence rw, w", "ecall"}
	for _, base := range []uint64{0, 4, 8, 4096, 1<<31 - 4} {
		m := api.Image{Base: base, Words: words(t, lines...), Start: []api.Hart{{}}}
		for place, text := range lines {
			pc := base + 4*uint64(place)
			if text[0] == '.' {
				text = ""
			}
			holdFetch(t, m, pc, text)
			// Between two words there is nothing.
			for _, off := range []uint64{1, 2, 3} {
				holdFetch(t, m, pc+off, "")
				holdFetch(t, m, pc-off, "")
			}
			// Nor a whole turn of some lesser word away.
			for _, off := range []uint64{1 << 16, 1 << 18, 1 << 31, 1 << 32, 1 << 34, 1 << 62, 1 << 63} {
				holdFetch(t, m, pc+off, "")
				holdFetch(t, m, pc-off, "")
			}
		}
		for _, off := range []uint64{1, 2, 3, 4, 5, 8, 12, 24, 4096} {
			holdFetch(t, m, base-off, "")
			holdFetch(t, m, base+4*uint64(len(lines))-1+off, "")
		}
		for _, pc := range []uint64{math.MaxUint64, math.MaxUint64 - 3, math.MaxUint64 - 7, 1 << 63, 1<<63 - 4, 1 << 32} {
			holdFetch(t, m, pc, "")
		}
	}
}

func TestFetchOfNoneAndOfAll(t *testing.T) {
	m := api.Image{Base: 4096, Start: []api.Hart{{}}}
	for _, pc := range []uint64{0, 4092, 4096, 4100} {
		holdFetch(t, m, pc, "")
	}
	// Words in the room to spare are not there.
	m.Words = words(t, "ecall", "ebreak", "ecall")[:1]
	holdFetch(t, m, 4096, "ecall")
	holdFetch(t, m, 4100, "")
	m.Words = slices.Repeat(words(t, "ebreak"), api.MaxCode)
	m.Words[api.MaxCode-1] = words(t, "addi x1, x2, 3")[0]
	holdFetch(t, m, 4096, "ebreak")
	holdFetch(t, m, 4096+4*(api.MaxCode-2), "ebreak")
	holdFetch(t, m, 4096+4*(api.MaxCode-1), "addi x1, x2, 3")
	holdFetch(t, m, 4096+4*api.MaxCode, "")
}

func TestFetchOfWordsThatAreNones(t *testing.T) {
	for _, w := range []string{".00000000", ".ffffffff", ".0000100f", ".30200073", ".8330000f", ".00000053", ".00007003", ".00200073"} {
		m := api.Image{Words: words(t, w), Start: []api.Hart{{}}}
		holdFetch(t, m, 0, "")
	}
}

func TestFetchRefusesFirstWhatMayNotBe(t *testing.T) {
	for _, m := range []api.Image{
		{Words: words(t, "ecall")},
		{Base: 2, Words: words(t, "ecall"), Start: []api.Hart{{}}},
		{Base: 1 << 31, Words: words(t, "ecall"), Start: []api.Hart{{}}},
		{Words: slices.Repeat(words(t, "ecall"), api.MaxCode+1), Start: []api.Hart{{}}},
		{Words: words(t, "ecall"), Start: make([]api.Hart, 9)},
		{Words: words(t, "ecall"), Start: []api.Hart{{End: 1}}},
	} {
		for _, pc := range []uint64{0, 2, 4, m.Base, m.Base + 4, 1 << 63} {
			if i, err := run.Fetch(m, pc); i != (api.Insn{}) || err != api.ErrArg {
				t.Errorf("Fetch at %d, Base %d = %+v, %d", pc, m.Base, i, err)
			}
		}
	}
}

func TestFetchOfMany(t *testing.T) {
	d := dice(5)
	for range 300 {
		m := d.program(t)
		for off := range uint64(120) {
			pc := m.Base + off - 8
			want, there := plainFetch(m, pc)
			got, err := run.Fetch(m, pc)
			if got != want || there != (err == api.OK) || !there && err != api.ErrRange {
				t.Fatalf("Fetch at %#x, Base %#x = %+v, %d, want %+v", pc, m.Base, got, err, want)
			}
		}
	}
}
