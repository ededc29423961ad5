package litmus_test

import (
	"slices"
	"testing"

	"fencepost/api"
	"fencepost/code"
	"fencepost/litmus"
)

// P13.1: Fenced, Has

// holdFenced holds a test with fences: its words' texts, where its harts begin, and all else.
func holdFenced(t *testing.T, l api.Litmus, texts []string, pcs ...uint64) {
	t.Helper()
	want := api.Litmus{Image: api.Image{Base: l.Image.Base, Words: words(t, texts...)}, First: l.First, Look: l.Look}
	for number, h := range l.Image.Start {
		h.PC = pcs[number]
		want.Image.Start = append(want.Image.Start, h)
	}
	got, err := litmus.Fenced(l)
	if err != api.OK || told(got) != told(want) {
		t.Errorf("Fenced = %d, %s\nwant %s", err, tell(got), tell(want))
	}
}

const wall = "fence rw, rw"

func TestFenced(t *testing.T) {
	l := with(litmusOf(t, lines{"sd x5, 0(x6)", "ld x10, 0(x7)"}, lines{"addi x9, x0, 1", "sd x9, 0(x7)", "addi x9, x0, 1", "ld x10, 0(x6)", "addi x9, x0, 1"}), 8, 7, 16, 0)
	holdFenced(t, l, lines{"sd x5, 0(x6)", wall, "ld x10, 0(x7)", wall, "ebreak", "addi x9, x0, 1", "sd x9, 0(x7)", wall, "addi x9, x0, 1", "ld x10, 0(x6)", wall, "addi x9, x0, 1", "ebreak"}, 0, 20)
	l.Image.Base = 4096
	l.Image.Start[0].PC, l.Image.Start[1].PC = 4096, 4096+12
	holdFenced(t, l, lines{"sd x5, 0(x6)", wall, "ld x10, 0(x7)", wall, "ebreak", "addi x9, x0, 1", "sd x9, 0(x7)", wall, "addi x9, x0, 1", "ld x10, 0(x6)", wall, "addi x9, x0, 1", "ebreak"}, 4096, 4096+20)
}

func TestFencedOfEachOp(t *testing.T) {
	fenced := 0
	for op := api.RvLui; op <= api.RvAmomaxuD; op++ {
		// On the way, or behind it.
		text := textOf(t, op)
		want := lines{text}
		if isOf(text, plainMemory) || isOf(text, plainShort) {
			want = append(want, wall)
			fenced++
		}
		l := litmusOf(t, lines{"ebreak", text, "addi x9, x0, 1"}, lines{})
		holdFenced(t, l, slices.Concat(lines{"ebreak"}, want, lines{"addi x9, x0, 1", "ebreak", "ebreak"}), 0, uint64(4*(len(want)+3)))
		if isOf(text, plainShort) || isOf(text, plainGoes) {
			continue
		}
		l = litmusOf(t, lines{text}, lines{"ld x10, 0(x6)"})
		l.Image.Start[0].X[5] = 0
		holdFenced(t, l, slices.Concat(want, lines{"ebreak", "ld x10, 0(x6)", wall, "ebreak"}), 0, uint64(4*(len(want)+1)))
	}
	if fenced != 33 {
		t.Errorf("%d ops have a fence behind them", fenced)
	}
}

func TestFencedOfNoMemory(t *testing.T) {
	l := litmusOf(t, lines{"addi x9, x0, 1", "fence rw, rw", "lui x9, 3"}, lines{}, lines{"fence w, w"})
	holdFenced(t, l, code.Dump(l.Image.Words), 0, 16, 20)
	l = litmusOf(t, lines{})
	holdFenced(t, l, lines{"ebreak"}, 0)
	// Words that are none's stay.
	l.Image.Words = words(t, ".00000000", "ld x10, 0(x6)", ".ffffffff", ".00000003")
	holdFenced(t, l, lines{".00000000", "ld x10, 0(x6)", wall, ".ffffffff", "lb x0, 0(x0)", wall}, 0)
}

func TestFencedOfHartsInTheMiddle(t *testing.T) {
	l := litmusOf(t, lines{"sd x5, 0(x6)", "ld x10, 0(x7)", "addi x9, x0, 1", "ld x11, 0(x8)"}, lines{}, lines{}, lines{})
	want := lines{"sd x5, 0(x6)", wall, "ld x10, 0(x7)", wall, "addi x9, x0, 1", "ld x11, 0(x8)", wall, "ebreak", "ebreak", "ebreak", "ebreak"}
	pcs := []uint64{0, 8, 16, 20, 28, 32, 36, 40}
	for _, begin := range [][4]int{{0, 1, 3, 7}, {0, 2, 3, 4}, {0, 4, 5, 6}, {3, 1, 1, 2}, {7, 6, 5, 0}, {2, 2, 2, 2}} {
		var then []uint64
		for number, n := range begin {
			l.Image.Start[number].PC = uint64(4 * n)
			then = append(then, pcs[n])
		}
		holdFenced(t, l, want, then...)
	}
}

func TestFencedTwice(t *testing.T) {
	l := litmusOf(t, lines{"sd x5, 0(x6)", "ld x10, 0(x7)"})
	f, _ := litmus.Fenced(l)
	holdFenced(t, f, lines{"sd x5, 0(x6)", wall, wall, "ld x10, 0(x7)", wall, wall, "ebreak"}, 0)
}

func TestFencedOfOneThatIsNoneThen(t *testing.T) {
	long := func(many, memory int) api.Litmus {
		return litmusOf(t, lines{"ld x10, 0(x6)"}, slices.Concat(slices.Repeat(lines{"addi x9, x9, 1"}, many-memory), slices.Repeat(lines{"sd x5, 0(x6)"}, memory)))
	}
	refuse := func(l api.Litmus) {
		t.Helper()
		if got, err := litmus.Fenced(l); litmus.Check(l) != api.OK || err != api.ErrArg || told(got) != told(api.Litmus{}) {
			t.Errorf("%d: %s", err, tell(got))
		}
	}
	may := func(l api.Litmus) {
		t.Helper()
		if f, err := litmus.Fenced(l); err != api.OK || litmus.Check(f) != api.OK {
			t.Errorf("%d: %s", err, tell(f))
		}
	}
	// A way gets as long as fences are put there.
	for memory := range 6 {
		may(long(64-memory, memory))
		if memory > 0 {
			refuse(long(65-memory, memory))
			refuse(long(64, memory))
		}
	}
	// More words than an image may have, though nobody comes there.
	l := litmusOf(t, lines{"ld x10, 0(x6)"})
	l.Image.Words = append(l.Image.Words, slices.Repeat(words(t, "sd x5, 0(x6)"), 32767)...)
	l.Image.Words = l.Image.Words[:32768]
	// 65,536 words but one: the ebreak has no fence.
	may(l)
	l.Image.Words = append(l.Image.Words, words(t, "ebreak")...)
	may(l)
	l.Image.Words = append(l.Image.Words, words(t, "ebreak")...)
	refuse(l)
}

func TestFencedRefuses(t *testing.T) {
	for _, l := range []api.Litmus{{}, litmusOf(t, lines{"ecall"}), with(plain(t), 9, 9), looking(plain(t)), litmusOf(t, slices.Repeat(lines{"ld x10, 0(x6)"}, 7))} {
		if got, err := litmus.Fenced(l); err != api.ErrArg || told(got) != told(api.Litmus{}) {
			t.Errorf("%d: %s", err, tell(got))
		}
	}
}

func TestFencedAtRandom(t *testing.T) {
	d, met := dice(8), 0
	for range 2000 {
		l := d.litmus(t, 6)
		if litmus.Check(l) != api.OK {
			continue
		}
		met++
		texts, pcs := plainFenced(l.Image)
		holdFenced(t, l, texts, pcs...)
		if t.Failed() {
			return
		}
	}
	if met < 1000 {
		t.Errorf("%d tests", met)
	}
}

func TestHas(t *testing.T) {
	l := rows(2, 0, 1, 1, 0, 1, 1<<63)
	for _, x := range []struct {
		one []uint64
		has bool
	}{
		{[]uint64{0, 1}, true}, {[]uint64{1, 0}, true}, {[]uint64{1, 1 << 63}, true},
		{[]uint64{0, 0}, false}, {[]uint64{1, 1}, false}, {[]uint64{1 << 63, 1}, false},
		{[]uint64{0}, false}, {[]uint64{1}, false}, {[]uint64{0, 1, 0}, false}, {[]uint64{1, 0, 1}, false}, {nil, false}, {[]uint64{}, false},
	} {
		if got := litmus.Has(l, x.one); got != x.has {
			t.Errorf("Has(%v) = %t", x.one, got)
		}
		if litmus.Has(nil, x.one) || litmus.Has([][]uint64{}, x.one) || litmus.Has(l[:0], x.one) {
			t.Errorf("nothing has %v", x.one)
		}
	}
	// Of lists of other lengths, not rising, with some twice; an empty one is a nil one.
	odd := [][]uint64{{5, 5}, {3}, nil, {5, 5}, {1, 2, 3}}
	for _, one := range append(slices.Clone(odd), []uint64{}) {
		if !litmus.Has(odd, one) {
			t.Errorf("Has(%v) = false", one)
		}
	}
	for _, one := range [][]uint64{{5}, {1, 2}, {0}, {3, 3}, {2, 3}} {
		if litmus.Has(odd, one) {
			t.Errorf("Has(%v) = true", one)
		}
	}
	if !litmus.Has([][]uint64{{}}, nil) || litmus.Has(nil, nil) {
		t.Error("of nothing")
	}
}
