package litmus_test

import (
	"fmt"
	"math"
	"slices"
	"strings"
	"testing"

	"fencepost/api"
	"fencepost/insn"
	"fencepost/litmus"
)

// P13.1: Check

// hold holds whether a test may be and is tiny, and that all calls refuse one that is not.
func hold(t *testing.T, l api.Litmus, good bool) {
	t.Helper()
	want := api.ErrArg
	if good {
		want = api.OK
	}
	if got := litmus.Check(l); got != want {
		t.Errorf("Check of Base %d, %d words = %d, want %d: %s", l.Image.Base, len(l.Image.Words), got, want, short(l))
	}
	if plain := plainMay(l) && plainTiny(l); plain != good {
		t.Errorf("the reference says %t of %s", plain, short(l))
	}
	if good {
		return
	}
	a, errA := litmus.Model(l)
	b, errB := litmus.Turns(l)
	c, errC := litmus.Fenced(l)
	if errA != want || errB != want || errC != want || len(a) > 0 || len(b) > 0 || told(c) != told(api.Litmus{}) {
		t.Errorf("Model: %v, %d; Turns: %v, %d; Fenced: %v, %d of %s", a, errA, b, errB, c, errC, short(l))
	}
}

// short tells a test, if it is no long one.
func short(l api.Litmus) string {
	if len(l.Image.Words) > 100 || len(l.First) > 20 {
		return fmt.Sprint(len(l.Image.Words), " words")
	}
	return tell(l)
}

// plain answers a test of two harts that is as it should be.
func plain(t *testing.T) api.Litmus {
	t.Helper()
	return litmusOf(t, lines{"sd x5, 0(x6)", "ld x10, 0(x7)"}, lines{"sd x5, 0(x7)", "ld x10, 0(x6)"})
}

func TestCheckOfImages(t *testing.T) {
	hold(t, plain(t), true)
	hold(t, api.Litmus{}, false)
	for place, spoil := range []func(m *api.Image){
		func(m *api.Image) { m.Base = 1; m.Start[0].PC++; m.Start[1].PC++ },
		func(m *api.Image) { m.Base = 2; m.Start[0].PC += 2; m.Start[1].PC += 2 },
		func(m *api.Image) { m.Base = 1 << 31; m.Start[0].PC += 1 << 31; m.Start[1].PC += 1 << 31 },
		func(m *api.Image) { m.Base = 1 << 63; m.Start[0].PC += 1 << 63; m.Start[1].PC += 1 << 63 },
		func(m *api.Image) { m.Words = nil },
		func(m *api.Image) { m.Start = nil },
		func(m *api.Image) { m.Start = m.Start[:1] },
		func(m *api.Image) { m.Start[1].X[0] = 1 },
		func(m *api.Image) { m.Start[0].End = api.EndBreak },
		func(m *api.Image) { m.Start[1].End = 7 },
		func(m *api.Image) { m.Start[1].End = -1 },
		func(m *api.Image) { m.Start[0].Code = 1 },
		func(m *api.Image) { m.Words = append(m.Words, make([]uint32, api.MaxCode-len(m.Words)+1)...) },
	} {
		l := plain(t)
		spoil(&l.Image)
		hold(t, l, false)
		if t.Failed() {
			t.Fatalf("change %d", place)
		}
	}
	// At the edges it may be.
	for _, base := range []uint64{4, 8, 4096, 1<<31 - 4} {
		l := plain(t)
		l.Image.Base = base
		for number := range l.Image.Start {
			l.Image.Start[number].PC += base
		}
		hold(t, l, true)
	}
	l := plain(t)
	l.Image.Words = append(l.Image.Words, make([]uint32, api.MaxCode-len(l.Image.Words))...)
	hold(t, l, true)
}

func TestCheckOfNumbersOfHarts(t *testing.T) {
	l := litmusOf(t, slices.Repeat([]lines{{"ld x10, 0(x6)"}}, 9)...)
	l.Look = l.Look[:1]
	all := l.Image.Start
	for many := range 10 {
		l.Image.Start = all[:many]
		hold(t, l, 1 <= many && many <= 4)
	}
}

func TestCheckOfPCs(t *testing.T) {
	for _, base := range []uint64{0, 4096, 1<<31 - 4} {
		l := plain(t)
		l.Image.Base = base
		words := uint64(len(l.Image.Words))
		for number := range 2 {
			try := func(pc uint64, good bool) {
				t.Helper()
				m := l
				m.Image.Start = slices.Clone(l.Image.Start)
				m.Image.Start[1-number].PC = base
				m.Image.Start[number].PC = pc
				hold(t, m, good)
			}
			for n := range words {
				try(base+4*n, true)
				for _, off := range []uint64{1, 2, 3} {
					try(base+4*n+off, false)
				}
				for _, round := range []uint64{1 << 31, 1 << 32, 1 << 34, 1 << 62, 1 << 63} {
					try(base+4*n+round, false)
				}
			}
			try(base+4*words, false)
			try(base+4*words+4, false)
			try(base-1, false)
			try(base-4, false)
			try(base-8, false)
			try(math.MaxUint64, false)
			try(1<<63, false)
		}
	}
	// That of a word that is none's.
	l := plain(t)
	l.Image.Words[0] = 0
	hold(t, l, true)
}

func TestCheckOfFirst(t *testing.T) {
	for _, first := range [][]uint64{{}, {0, 1}, {8, 0}, {8, 1, 16, 1}, {0, 1, 1<<64 - 8, 2}, {24, 7, 32, 7, 40, 7, 48, 7, 56, 0}} {
		hold(t, with(plain(t), first...), true)
	}
	for _, first := range [][]uint64{{1, 0}, {4, 1}, {7, 0}, {8, 1, 8, 1}, {16, 1, 8, 1}, {8, 1, 16, 1, 12, 0}, {8, 1, 20, 1}, {1<<64 - 1, 0}, {0, 0, 0, 0}} {
		hold(t, with(plain(t), first...), false)
	}
}

func TestCheckOfLook(t *testing.T) {
	l := plain(t)
	for many := range 12 {
		l.Look = slices.Repeat([]api.Reg{{Hart: 1, X: 10}}, many)
		hold(t, l, 1 <= many && many <= 8)
	}
	for _, x := range []int{-1, 0, 1, 30, 31, 32, 33, math.MinInt, math.MaxInt, 1 << 32, -1 << 32} {
		for hart := range 2 {
			hold(t, looking(l, 0, 10, hart, x), 0 <= x && x <= 31)
			hold(t, looking(l, hart, x), 0 <= x && x <= 31)
		}
	}
	for _, hart := range []int{-1, 0, 1, 2, 3, 4, math.MinInt, math.MaxInt, 1 << 32, -1 << 32} {
		hold(t, looking(l, hart, 10), 0 <= hart && hart <= 1)
		hold(t, looking(l, 0, 1, 1, 1, 1, 2, 0, 5, 0, 1, 0, 3, 1, 9, hart, 31), 0 <= hart && hart <= 1)
	}
	one := litmusOf(t, lines{"ld x10, 0(x6)"})
	hold(t, looking(one, 0, 10), true)
	hold(t, looking(one, 1, 10), false)
	four := litmusOf(t, lines{}, lines{}, lines{}, lines{})
	hold(t, looking(four, 3, 10), true)
	hold(t, looking(four, 4, 10), false)
}

// wayOf answers a test whose hart, of so many, has a way of so many words, up to what is behind it.
func wayOf(t *testing.T, harts, number, many int, behind ...string) api.Litmus {
	t.Helper()
	l := litmusOf(t, slices.Repeat([]lines{{"ld x10, 0(x6)"}}, harts)...)
	l.Image.Start[number].PC = 4 * uint64(len(l.Image.Words))
	way := append(slices.Repeat(lines{"addi x9, x9, 1"}, many-1), "sd x5, 0(x6)")
	l.Image.Words = append(l.Image.Words, words(t, append(way, behind...)...)...)
	l.Look = l.Look[:1]
	return l
}

func TestCheckOfLongWays(t *testing.T) {
	// Up to an ebreak, to a word that is none's, behind the last one.
	for _, behind := range []lines{{"ebreak"}, {"ebreak", "ecall", "jal x0, 0"}, {".00000000"}, {".ffffffff", "beq x0, x0, 0"}, {}} {
		for harts := 1; harts <= 4; harts++ {
			for number := range harts {
				for many, good := range map[int]bool{1: true, 2: true, 63: true, 64: true, 65: false, 66: false, 100: false, 128: false} {
					hold(t, wayOf(t, harts, number, many, behind...), good)
				}
			}
		}
	}
	// What stands behind the ebreak, or ahead of the PC, is none of its words.
	l := wayOf(t, 2, 1, 64, append(lines{"ebreak"}, slices.Repeat(lines{"addi x9, x9, 1"}, 100)...)...)
	hold(t, l, true)
	l.Image.Start[1].PC -= 4
	hold(t, l, true)
	l = wayOf(t, 1, 0, 300, "ebreak")
	hold(t, l, false)
	l.Image.Start[0].PC += 4 * (300 - 64)
	hold(t, l, true)
	l.Image.Start[0].PC -= 4
	hold(t, l, false)
	// All words of a great image.
	l = wayOf(t, 1, 0, api.MaxCode-2)
	hold(t, l, false)
	l.Image.Start[0].PC += 4 * (api.MaxCode - 2 - 64)
	hold(t, l, true)
	l.Image.Start[0].PC -= 4
	hold(t, l, false)
	// Each may be as long, also of the same words.
	l = wayOf(t, 4, 0, 64, "ebreak")
	for number := range l.Image.Start {
		l.Image.Start[number].PC = l.Image.Start[0].PC
	}
	hold(t, l, true)
}

func TestCheckOfEmptyWays(t *testing.T) {
	for _, l := range []lines{{"ebreak"}, {".00000000"}, {".00000000", "ecall"}, {"ebreak", "lw x1, 0(x6)"}} {
		hold(t, litmusOf(t, l), true)
		hold(t, litmusOf(t, l, l, l, l), true)
	}
}

// textOf answers the text of an instruction of an op.
func textOf(t *testing.T, op int) string {
	t.Helper()
	i := api.Insn{Op: op, Rd: 10, Rs1: 6, Rs2: 5}
	switch insn.Form(op) {
	case api.FormU, api.FormJ:
		i.Rs1, i.Rs2 = 0, 0
	case api.FormI, api.FormLoad, api.FormShift, api.FormLR:
		i.Rs2 = 0
	case api.FormStore, api.FormB:
		i.Rd = 0
	case api.FormFence, api.FormSys:
		i = api.Insn{Op: op}
	}
	text, err := insn.Text(i)
	if err != api.OK {
		t.Fatalf("%+v may not be", i)
	}
	return text
}

func TestCheckOfEachOp(t *testing.T) {
	refused := 0
	for op := api.RvLui; op <= api.RvAmomaxuD; op++ {
		text := textOf(t, op)
		good := !isOf(text, plainGoes) && !isOf(text, plainShort)
		if !good {
			refused++
		}
		other := lines{"ld x10, 0(x6)"}
		for _, harts := range [][]lines{
			{{text}}, {{"addi x9, x9, 1", text, "addi x9, x9, 1"}}, {other, {text}}, {{text}, other}, {other, other, {text, text}, other}, {other, other, other, {"fence rw, rw", text}},
		} {
			// With noughts in x5 no amo makes new values.
			l := litmusOf(t, harts...)
			for number := range l.Image.Start {
				l.Image.Start[number].X[5] = 0
			}
			hold(t, l, good)
		}
		// Behind the ebreak, behind a word that is none's, ahead of the PC it does not matter.
		hold(t, litmusOf(t, lines{"ld x10, 0(x6)", "ebreak", text}), true)
		hold(t, litmusOf(t, lines{"ld x10, 0(x6)", ".00000000", text}, other), true)
		l := litmusOf(t, append(lines{text}, other...))
		l.Image.Start[0].PC += 4
		hold(t, l, true)
	}
	if refused != len(strings.Fields(plainGoes))+len(strings.Fields(plainShort)) {
		t.Errorf("%d are refused", refused)
	}
}

func TestCheckOfManyInstructionsOfMemory(t *testing.T) {
	for _, text := range []string{"ld x10, 0(x6)", "sd x5, 0(x6)", "lr.d x10, (x6)", "sc.d x10, x5, (x6)", "amoor.d x10, x5, (x6)", "amoswap.d.aqrl x0, x0, (x6)"} {
		for many := range 9 {
			for harts := 1; harts <= 4; harts++ {
				all := make([]lines, harts)
				for n := range many {
					all[n%harts] = append(all[n%harts], text, "fence rw, rw", "addi x9, x9, 1")
				}
				hold(t, litmusOf(t, all...), many <= 6)
			}
		}
	}
	// What both have counts twice.
	l := litmusOf(t, slices.Repeat(lines{"ld x10, 0(x6)"}, 4), lines{})
	hold(t, l, true)
	for place, good := range []bool{false, false, true, true, true} {
		l.Image.Start[1].PC = 4 * uint64(place)
		hold(t, l, good)
	}
	// Behind an end by an address it counts still.
	hold(t, litmusOf(t, append(lines{"ld x10, 1(x6)"}, slices.Repeat(lines{"ld x10, 0(x6)"}, 6)...)), false)
	hold(t, litmusOf(t, append(lines{"ld x10, 1(x6)"}, slices.Repeat(lines{"ld x10, 0(x6)"}, 5)...)), true)
}

func TestCheckOfManyValues(t *testing.T) {
	l := litmusOf(t, lines{"ld x10, 0(x6)", "ld x11, 0(x7)"})
	// Of First: each value once, 0 among them, also where nobody looks.
	hold(t, with(l, 8, 1, 16, 2, 24, 3), true)
	hold(t, with(l, 8, 1, 16, 2, 24, 3, 32, 4), false)
	hold(t, with(l, 8, 1, 16, 2, 24, 3, 32, 0), true)
	hold(t, with(l, 8, 1, 16, 2, 24, 3, 32, 1, 40, 2, 48, 3, 56, 3), true)
	hold(t, with(l, 800, 1, 1600, 2, 2400, 3), true)
	hold(t, with(l, 800, 1, 1600, 2, 2400, 3, 3200, 1<<63), false)
	var first []uint64
	for n := range uint64(5000) {
		first = append(first, 8*n, n)
	}
	hold(t, with(l, first...), false)
	// Stored ones.
	stores := func(values ...int) api.Litmus {
		var l lines
		for _, v := range values {
			l = append(l, "addi x9, x0, "+told(v), "sd x9, 0(x6)")
		}
		return litmusOf(t, lines{"ld x10, 0(x6)"}, l)
	}
	hold(t, stores(1, 2, 3), true)
	hold(t, stores(1, 2, 3, 4), false)
	hold(t, stores(1, 2, 0, 3), true)
	hold(t, stores(1, 2, 2, 1, 3), true)
	hold(t, stores(-1, -2, -3), true)
	hold(t, stores(-1, -2, -3, 1), false)
	hold(t, with(stores(1, 2), 800, 2, 808, 3), true)
	hold(t, with(stores(1, 2), 800, 5, 808, 3), false)
	hold(t, with(stores(5, 3), 800, 5, 808, 3), true)
}

func TestCheckOfValuesThatAreStoredIfOthersAreLoaded(t *testing.T) {
	chain := func(l ...lines) api.Litmus { return litmusOf(t, l...) }
	// One more than what is loaded, as far as it goes.
	up := lines{"ld x10, 0(x6)", "addi x11, x10, 1", "sd x11, 0(x7)"}
	hold(t, chain(up), false)
	// 0, 1, 2, 3 and then the same again; 0 to 4.
	round := func(most int) lines {
		return lines{"addi x9, x0, " + told(most), "ld x10, 0(x6)", "sltu x11, x10, x9", "add x11, x11, x10", "sd x11, 0(x6)"}
	}
	for most := 1; most <= 5; most++ {
		hold(t, chain(round(most)), most <= 3)
		hold(t, chain(lines{"ld x10, 0(x6)"}, round(most)), most <= 3)
		hold(t, with(chain(round(most)), 800, 2), most <= 3)
		hold(t, with(chain(round(most)), 800, 9), most <= 2)
	}
	// Only if one value is met elsewhere at all: another address's value, another hart's.
	only := lines{"ld x10, 0(x8)", "addi x9, x0, 7", "sub x11, x10, x9", "sltiu x11, x11, 1", "slli x11, x11, 4", "sd x11, 0(x6)"}
	hold(t, with(chain(only), 8, 1, 16, 2, 24, 3), true)
	hold(t, with(chain(only), 8, 1, 16, 2, 800, 7), false)
	hold(t, chain(only, lines{"addi x9, x0, 7", "sd x9, 0(x7)", "addi x9, x0, 6", "sd x9, 0(x7)"}), true)
	hold(t, chain(only, lines{"addi x9, x0, 7", "sd x9, 0(x7)", "addi x9, x0, 6", "sd x9, 0(x7)", "addi x9, x0, 5", "sd x9, 0(x7)"}), false)
	// By an sc that wins, whether it may in the end or not; not by one that is not held.
	sc := func(between ...string) api.Litmus {
		return with(chain(append(append(lines{"addi x9, x0, 9", "lr.d x10, (x6)"}, between...), "sc.d x11, x9, (x6)")), 800, 1, 808, 2, 816, 3)
	}
	hold(t, sc(), false)
	hold(t, sc("ld x10, 0(x6)"), false)
	hold(t, sc("sc.d x11, x5, (x7)"), true)
	hold(t, sc("sc.d x11, x5, (x6)"), true)
	hold(t, sc("lr.d x10, (x7)"), true)
	hold(t, sc("lr.d x10, (x7)", "lr.d x10, (x6)"), false)
	hold(t, sc("addi x6, x7, 0"), true)
	hold(t, with(chain(lines{"addi x9, x0, 9", "sc.d x11, x9, (x6)"}), 800, 1, 808, 2, 816, 3), true)
	// What an sc tells is what is stored.
	hold(t, with(chain(lines{"lr.d x10, (x6)", "sc.d x11, x5, (x6)", "addi x11, x11, 5", "sd x11, 0(x7)"}), 800, 6), true)
	hold(t, with(chain(lines{"lr.d x10, (x6)", "sc.d x11, x5, (x6)", "addi x11, x11, 5", "sd x11, 0(x7)"}), 800, 7), false)
	// Behind an end nothing is stored.
	hold(t, with(chain(lines{"ld x10, 4(x6)", "addi x9, x0, 9", "sd x9, 0(x6)"}), 800, 1, 808, 2, 816, 3), true)
	hold(t, with(chain(lines{"ld x10, 0(x6)", "ld x10, 0(x10)", "addi x9, x0, 9", "sd x9, 0(x6)"}), 800, 1, 808, 2, 816, 3), false)
	hold(t, with(chain(lines{"ld x10, 0(x6)", "ld x10, 1(x10)", "addi x9, x0, 9", "sd x9, 0(x6)"}), 800, 2, 808, 4, 816, 6), true)
	hold(t, with(chain(lines{"ld x10, 0(x6)", "ld x10, 1(x10)", "addi x9, x0, 9", "sd x9, 0(x6)"}), 800, 2, 808, 4, 816, 7), false)
	// Amos.
	for op, good := range map[string]bool{"add": false, "swap": true, "and": true, "or": true, "max": true, "minu": true, "xor": true} {
		hold(t, with(chain(lines{"amo" + op + ".d x10, x5, (x6)", "amo" + op + ".d x10, x5, (x6)"}), 8, 2, 16, 3), good)
	}
	hold(t, with(chain(lines{"amoxor.d x10, x5, (x6)"}), 8, 2), true)
	hold(t, with(chain(lines{"amoxor.d x10, x5, (x6)"}), 8, 4, 16, 2), false)
	hold(t, chain(lines{"amomin.d x10, x5, (x6)", "amomax.d x10, x6, (x6)"}), true)
}

func TestCheckOfSeveralWrongAtOnce(t *testing.T) {
	l := litmusOf(t, lines{"ecall"}, append(lines{"beq x0, x0, 0", "lw x1, 0(x6)"}, slices.Repeat(lines{"amoadd.d x10, x5, (x6)"}, 80)...))
	hold(t, l, false)
	l.First, l.Look = at(4, 1, 4, 2), nil
	hold(t, l, false)
	l.Image.Start = slices.Repeat(l.Image.Start, 5)
	l.Image.Base = 3
	hold(t, l, false)
	l = with(looking(plain(t), 2, 32), 9, 9)
	l.Image.Start[0].PC = 2
	hold(t, l, false)
}

func TestCheckAtRandom(t *testing.T) {
	d, good, bad := dice(3), 0, 0
	for range 700 {
		l := d.litmus(t, 6)
		for range 2 {
			d.spoil(&l)
		}
		is := plainMay(l) && plainTiny(l)
		if is {
			good++
		} else {
			bad++
		}
		hold(t, l, is)
		if t.Failed() {
			return
		}
	}
	if good < 200 || bad < 200 {
		t.Errorf("%d good, %d bad", good, bad)
	}
}
