package litmus_test

import (
	"fmt"
	"slices"
	"testing"

	"fencepost/api"
)

// Tests at random.

// dice is a row of numbers without a rule to be seen in it, always the same.
type dice uint64

func (d *dice) below(n int) int {
	*d = *d*6364136223846793005 + 1442695040888963407
	return int(uint64(*d)>>33) % n
}

func pick[T any](d *dice, l ...T) T {
	return l[d.below(len(l))]
}

// memory answers the text of an instruction of memory at random.
func (d *dice) memory() string {
	x := func() string { return pick(d, "x10", "x11", "x5") }
	a := func() string { return pick(d, "x6", "x6", "x6", "x7", "x7", "x8", "x12") }
	mark := func() string { return pick(d, "", "", ".aq", ".rl", ".aqrl") }
	switch d.below(9) {
	case 0, 1, 2:
		return fmt.Sprintf("ld %s, 0(%s)", pick(d, "x10", "x11"), a())
	case 3, 4, 5:
		return fmt.Sprintf("sd %s, 0(%s)", pick(d, "x5", "x5", "x10", "x11"), a())
	case 6:
		return fmt.Sprintf("lr.d%s %s, (%s)", mark(), pick(d, "x10", "x11"), a())
	case 7:
		return fmt.Sprintf("sc.d%s %s, %s, (%s)", mark(), pick(d, "x10", "x11"), x(), a())
	}
	op := pick(d, "swap", "swap", "or", "and", "max", "minu", "xor", "add")
	return fmt.Sprintf("amo%s.d%s %s, x5, (%s)", op, mark(), pick(d, "x10", "x11", "x0"), a())
}

// other answers the text of an instruction at random that is none of memory.
func (d *dice) other() string {
	return pick(d, "fence rw, rw", "fence w, w", "fence r, r", "fence w, r", "fence r, rw", "addi x0, x10, 3",
		"xor x12, x10, x10", "add x6, x6, x12", "addi x11, x10, 0", "andi x11, x10, 1", "sltu x10, x11, x5", "addi x7, x6, 0", "lui x13, 3")
}

// hart answers a hart's lines at random, of so many instructions of memory.
func (d *dice) hart(many int) lines {
	var l lines
	for many > 0 {
		if many > 1 && d.below(4) == 0 {
			a := pick(d, "x6", "x6", "x7")
			l = append(l, "lr.d x10, ("+a+")")
			if d.below(3) == 0 {
				l = append(l, d.other())
			}
			l = append(l, "sc.d x11, x5, ("+a+")")
			many -= 2
			continue
		}
		for range pick(d, 0, 0, 0, 1, 2) {
			l = append(l, d.other())
		}
		l = append(l, d.memory())
		many--
	}
	if d.below(3) == 0 {
		l = append(l, d.other())
	}
	return l
}

// shaped answers harts' lines at random, of mostly not more than so many instructions of memory: such as may come to memory turned, with some of them changed.
func (d *dice) shaped(most int) []lines {
	shapes := [][]lines{
		{{"sd x5, 0(x6)", "ld x10, 0(x7)"}, {"sd x5, 0(x7)", "ld x10, 0(x6)"}},
		{{"sd x5, 0(x6)", "sd x5, 0(x7)"}, {"ld x10, 0(x7)", "ld x11, 0(x6)"}},
		{{"ld x10, 0(x6)", "sd x5, 0(x7)"}, {"ld x10, 0(x7)", "sd x5, 0(x6)"}},
		{{"amoswap.d x11, x5, (x6)", "ld x10, 0(x7)"}, {"amoswap.d x11, x5, (x7)", "ld x10, 0(x6)"}},
		{{"lr.d x10, (x6)", "sc.d x11, x5, (x6)"}, {"ld x10, 0(x6)", "sd x5, 0(x6)"}},
		{{"sd x5, 0(x6)"}, {"ld x10, 0(x6)", "sd x5, 0(x7)"}, {"ld x10, 0(x7)", "ld x11, 0(x6)"}},
		{{"sd x5, 0(x6)"}, {"sd x5, 0(x7)"}, {"ld x10, 0(x6)", "ld x11, 0(x7)"}, {"ld x10, 0(x7)", "ld x11, 0(x6)"}},
		{{"sd x5, 0(x6)", "ld x10, 0(x6)", "ld x11, 0(x7)"}, {"sd x5, 0(x7)", "ld x10, 0(x7)", "ld x11, 0(x6)"}},
		{{"sd x5, 0(x6)", "ld x10, 0(x7)"}, {"sd x5, 0(x7)", "ld x10, 0(x8)"}, {"sd x5, 0(x8)", "ld x10, 0(x6)"}},
		{{"lr.d x10, (x6)", "sc.d x11, x5, (x6)", "ld x10, 0(x7)"}, {"lr.d x10, (x7)", "sc.d x11, x5, (x7)", "ld x10, 0(x6)"}},
	}
	if most < 6 {
		shapes = shapes[:5]
	}
	var harts []lines
	for _, shape := range shapes[d.below(len(shapes))] {
		var l lines
		for _, line := range shape {
			if d.below(8) == 0 {
				line = d.memory()
			}
			if d.below(6) == 0 {
				l = append(l, d.other())
			}
			l = append(l, line)
		}
		harts = append(harts, l)
	}
	return harts
}

// litmus answers a test at random, of mostly not more than so many instructions of memory.
func (d *dice) litmus(t *testing.T, most int) api.Litmus {
	t.Helper()
	harts := d.shaped(most)
	if d.below(2) == 0 {
		many := pick(d, most, most, most-1, 1+d.below(most))
		shares := make([]int, pick(d, 1, 2, 2, 2, 2, 3, 3, 4))
		for range many {
			shares[d.below(len(shares))]++
		}
		harts = nil
		for _, share := range shares {
			harts = append(harts, d.hart(share))
		}
	}
	l := litmusOf(t, harts...)
	l.Image.Base = pick[uint64](d, 0, 0, 4096, 1<<31-4)
	for number := range l.Image.Start {
		h := &l.Image.Start[number]
		h.PC += l.Image.Base
		h.X[5] = pick[uint64](d, 1, 1, 1, 2, 8, 1<<63)
		h.X[12] = pick[uint64](d, 0, 0, 8, 16, 4, 1)
		if number > 0 && d.below(8) == 0 {
			h.PC = l.Image.Start[d.below(number)].PC
		}
	}
	// Where an ebreak stands there may be none: what is behind it goes on, up to the end.
	if d.below(8) == 0 {
		l.Image.Words = l.Image.Words[:len(l.Image.Words)-1]
	}
	if d.below(8) == 0 {
		l.Image.Words[len(l.Image.Words)-1] = 0
	}
	for _, addr := range []uint64{0, 8, 16, 24} {
		if d.below(4) == 0 {
			l.First = append(l.First, api.Cell{Addr: addr, Value: pick[uint64](d, 0, 1, 1, 2, 8, 1<<63)})
		}
	}
	if d.below(3) == 0 {
		l.Look = nil
		for range 1 + d.below(8) {
			l.Look = append(l.Look, api.Reg{Hart: d.below(len(harts)), X: pick(d, 10, 11, 10, 11, 6, 0, 31, 12)})
		}
	}
	return l
}

// spoil changes one thing of a test; it may be as good as it was.
func (d *dice) spoil(l *api.Litmus) {
	m := &l.Image
	h := &m.Start[d.below(len(m.Start))]
	switch d.below(16) {
	case 0:
		h.PC += uint64(pick(d, 1, 2, 4, 8, 16, -4))
	case 1:
		m.Words[d.below(len(m.Words))] = pick[uint32](d, 0, 0x00100073, 0x00000073, 0x00032503, 0x0000006f, 0x00000517)
	case 2:
		l.Look[d.below(len(l.Look))] = api.Reg{Hart: d.below(6) - 1, X: d.below(36) - 2}
	case 3:
		l.First = append(l.First, api.Cell{Addr: uint64(8*d.below(5) + d.below(2)), Value: uint64(d.below(5))})
	case 4:
		m.Start = append(slices.Clone(m.Start), *h)
	case 5:
		l.Look = append(l.Look, l.Look...)
	case 6:
		h.X[5] = uint64(d.below(9))
	}
}
