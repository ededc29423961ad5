package inter_test

import (
	"fmt"
	"strings"
	"testing"

	"fencepost/api"
)

// Programs and weaves at random.

// dice is a row of numbers without a rule to be seen in it, always the same.
type dice uint64

func (d *dice) below(n int) int {
	*d = *d*6364136223846793005 + 1442695040888963407
	return int(uint64(*d)>>33) % n
}

func pick[T any](d *dice, l ...T) T {
	return l[d.below(len(l))]
}

// line answers the text of an instruction at random.
func (d *dice) line() string {
	x := func() string { return pick(d, "x1", "x2", "x3", "x5") }
	// Registers that mostly have an address.
	a := func() string { return pick(d, "x6", "x6", "x6", "x7", "x7", "x8", "x6", "x9") }
	mark := func() string { return pick(d, "", ".aq", ".rl", ".aqrl") }
	switch d.below(16) {
	case 0, 1, 2:
		return fmt.Sprintf("ld %s, %d(%s)", x(), pick(d, 0, 0, 0, 8, -8), a())
	case 3, 4, 5:
		return fmt.Sprintf("sd %s, %d(%s)", x(), pick(d, 0, 0, 0, 8, -8), a())
	case 6, 7:
		return fmt.Sprintf("lr.d%s %s, (%s)", mark(), x(), a())
	case 8, 9:
		return fmt.Sprintf("sc.d%s %s, %s, (%s)", mark(), x(), x(), a())
	case 10:
		op := pick(d, "swap", "add", "xor", "and", "or", "min", "max", "minu", "maxu")
		return fmt.Sprintf("amo%s.d%s %s, %s, (%s)", op, mark(), x(), x(), a())
	case 11:
		return pick(d, "fence rw, rw", "fence w, w", "fence 0, 0", "fence iorw, r")
	case 12:
		return pick(d, "addi x0, x1, 3", "addi x0, x2, 4", "ecall", "addi x10, x1, 1")
	case 13:
		return fmt.Sprintf("%s %s, %s, %s", pick(d, "add", "xor", "mul", "sltu", "subw"), x(), x(), x())
	case 14:
		return fmt.Sprintf("%s %s, %s, %d", pick(d, "beq", "bne", "blt", "bgeu"), x(), x(), 4*(d.below(6)-2))
	}
	return fmt.Sprintf("addi %s, %s, %d", x(), pick(d, "x0", "x1", "x3"), 1+d.below(3))
}

// seldom answers the text of an instruction by which harts end, or go elsewhere.
func (d *dice) seldom() string {
	return pick(d, "ebreak", "lw x1, 0(x6)", "amoadd.w x1, x2, (x6)", "ld x2, 4(x6)",
		"jal x0, -8", "jalr x1, 0(x4)", "jal x0, 2", "auipc x2, 0", "ld x1, 0(x9)", ".00000000")
}

// some answers lines at random.
func (d *dice) some() lines {
	var l lines
	for range 2 + d.below(10) {
		switch d.below(16) {
		case 0:
			l = append(l, d.seldom())
		case 4:
			if d.below(3) == 0 {
				l = append(l, pick(d, "addi x17, x0, 0", "addi x17, x0, 2"), "ecall")
			}
		case 1, 2, 3:
			a := pick(d, "x6", "x6", "x7")
			l = append(l, "lr.d x1, ("+a+")")
			if d.below(2) == 0 {
				l = append(l, d.line())
			}
			l = append(l, "sc.d x2, x3, ("+a+")")
		default:
			l = append(l, d.line())
		}
	}
	return l
}

// program answers an image at random, of a few harts.
func (d *dice) program(t *testing.T) api.Image {
	t.Helper()
	var harts []lines
	for range pick(d, 1, 2, 2, 2, 3, 3, 4, 8) {
		harts = append(harts, d.some())
	}
	m := image(t, harts...)
	m.Base = pick[uint64](d, 0, 0, 4, 4096, 1<<31-4)
	for number := range m.Start {
		h := &m.Start[number]
		h.PC += m.Base
		h.X[1], h.X[2], h.X[3] = pick[uint64](d, 0, 1, 8, 16, 1<<63), pick[uint64](d, 0, 1, 2), uint64(number+1)
		h.X[4], h.X[9] = h.PC+4*uint64(d.below(4)), pick[uint64](d, 0, 1<<63, 1<<64-8, 8)
		if number > 0 && d.below(4) == 0 {
			h.PC = m.Start[0].PC
		}
	}
	return m
}

// weave answers a weave at random: of turns by turns, or of many one behind the other.
func (d *dice) weave(harts int) api.Weave {
	var w api.Weave
	turn := 0
	stay := pick(d, 1, 2, 2, 5)
	for range pick(d, 0, 1, 5, 20, 40, 80, 80) {
		if d.below(stay) == 0 {
			turn = pick(d, d.below(harts), d.below(harts), d.below(20), d.below(20)-17)
		}
		w.Harts = append(w.Harts, turn)
	}
	for range pick(d, 0, 0, 1, 3, 9) {
		w.Wins = append(w.Wins, d.below(3) > 0)
	}
	for _, addr := range []uint64{0, 8, 16, 24, 32, 1 << 63, 1<<64 - 8} {
		if d.below(3) == 0 {
			w.First = append(w.First, api.Cell{Addr: addr, Value: pick[uint64](d, 0, 1, 7, 8, 16, 1<<63)})
		}
	}
	return w
}

// many goes through weaves at random.
func many(t *testing.T, seed dice, times int, each func(m api.Image, w api.Weave)) {
	t.Helper()
	d := seed
	for range times {
		m := d.program(t)
		for range 3 {
			each(m, d.weave(len(m.Start)))
			if t.Failed() {
				return
			}
		}
	}
}

func TestReferenceMeetsAllThatThereIs(t *testing.T) {
	met := map[string]int{}
	many(t, 1, 2000, func(m api.Image, w api.Weave) {
		p := plainDo(m, w)
		got := p.woven()
		for number, trace := range got.Traces {
			met[fmt.Sprint("end ", trace.End.End)]++
			met["out"] += len(trace.Outs)
			met["mark"] += len(trace.Marks)
			for _, e := range trace.Events {
				met[fmt.Sprint("event ", e.Kind)]++
				met["hangs"] += len(e.Deps.Addr) + len(e.Deps.Data) + len(e.Deps.Way)
				if n := p.number(e); plainReads(e) && got.Cand.From[n] != none && events(got.Cand)[got.Cand.From[n]].Hart != number {
					met["reads another's"]++
				}
			}
		}
		held := map[bool]string{true: "may win and does", false: "may win and does not"}
		for _, won := range p.said {
			met[held[won]]++
		}
		for _, l := range p.log {
			if l.asked.Kind == api.AskSC {
				met["sc"]++
			}
		}
	})
	if met["sc"]-met["may win and does"]-met["may win and does not"] < 1000 {
		t.Errorf("scs: %v", met)
	}
	for _, name := range strings.Split("end 0,end 1,end 2,end 3,end 4,end 5,end 6,event 1,event 2,event 3,event 4,event 5,event 6,"+
		"out,mark,hangs,reads another's,may win and does,may win and does not", ",") {
		if met[name] < 40 {
			t.Errorf("%s: met %d times alone", name, met[name])
		}
	}
}
