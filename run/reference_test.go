package run_test

import (
	"fmt"
	"math"
	"slices"
	"strconv"
	"strings"
	"testing"

	"fencepost/alu"
	"fencepost/api"
	"fencepost/code"
	"fencepost/hart"
	"fencepost/insn"
	"fencepost/run"
	"fencepost/taint"
)

// What the tests hold the package against: the chapter told once more, out of a log of all that was asked.

// words answers the words of lines: instructions' texts, or a dot and a word's digits.
func words(t *testing.T, lines ...string) []uint32 {
	t.Helper()
	var l []uint32
	for _, line := range lines {
		if digits, raw := strings.CutPrefix(line, "."); raw {
			w, err := strconv.ParseUint(digits, 16, 32)
			if err != nil {
				t.Fatalf("%q is no word", line)
			}
			l = append(l, uint32(w))
			continue
		}
		i, err := insn.Read(line)
		if err != api.OK {
			t.Fatalf("%q is no instruction's text", line)
		}
		w, _ := code.Word(i)
		l = append(l, w)
	}
	return l
}

// regs are registers and what is in them.
type regs map[int]uint64

// at answers a hart that goes on, at pc, with noughts in all other registers.
func at(pc uint64, l regs) api.Hart {
	h := api.Hart{PC: pc}
	for x, v := range l {
		h.X[x] = v
	}
	return h
}

// alone answers an image at 0 with one hart, that begins at its first word.
func alone(t *testing.T, l regs, lines ...string) api.Image {
	t.Helper()
	return api.Image{Words: words(t, lines...), Start: []api.Hart{at(0, l)}}
}

// told tells all that a trace has; a nil list as an empty one.
func told(t api.Trace) string {
	return fmt.Sprintf("%+v", t)
}

// hold runs a hart of an image, and holds the trace, and what the run needs, against what is wanted.
func hold(t *testing.T, m api.Image, number int, p api.Picks, want api.Trace, needs int) {
	t.Helper()
	got, err := run.Run(m, number, p)
	if err != api.OK {
		t.Errorf("Run(%+v, %d, %+v): %d", m, number, p, err)
		return
	}
	if told(got) != told(want) {
		t.Errorf("Run(%v, %d, %+v)\n= %s,\nwant %s", code.Dump(m.Words), number, p, told(got), told(want))
	}
	if n := run.Needs(m, number, p); n != needs {
		t.Errorf("Needs(%v, %d, %+v) = %d, want %d", code.Dump(m.Words), number, p, n, needs)
	}
}

// must answers a run's trace.
func must(t *testing.T, m api.Image, number int, p api.Picks) api.Trace {
	t.Helper()
	got, err := run.Run(m, number, p)
	if err != api.OK {
		t.Fatalf("Run(%+v, %d, %+v): %d", m, number, p, err)
	}
	return got
}

// plainCheck tells whether an image may be.
func plainCheck(m api.Image) bool {
	good := m.Base&3 == 0 && m.Base>>31 == 0 && len(m.Words) <= 65536 && 1 <= len(m.Start) && len(m.Start) <= 8
	for _, h := range m.Start {
		good = good && h.X[0] == 0 && h.End == 0 && h.Code == 0
	}
	return good
}

// plainFetch looks for the word whose place a PC is.
func plainFetch(m api.Image, pc uint64) (api.Insn, bool) {
	for place, w := range m.Words {
		if m.Base+4*uint64(place) == pc {
			i, err := code.Insn(w)
			return i, err == api.OK
		}
	}
	return api.Insn{}, false
}

// logged is a line of the log: what was asked, and the place of the event that it made, or -1.
type logged struct {
	asked api.Ask
	event int
}

// plainPair answers the place of the lr whose address an sc finds held, or -1.
func plainPair(log []logged, addr uint64) int {
	for _, line := range slices.Backward(log) {
		switch line.asked.Kind {
		case api.AskSC:
			return -1
		case api.AskLR:
			if line.asked.Addr == addr {
				return line.event
			}
			return -1
		}
	}
	return -1
}

// plainRun is what is told of a run: its trace, what it needs, how many picks it took.
type plainRun struct {
	trace       api.Trace
	needs       int
	loads, wins int
	log         []logged
}

// plain runs a hart of an image that may be.
func plain(m api.Image, number int, p api.Picks) plainRun {
	h, hangs := m.Start[number], taint.New()
	var r plainRun
	for r.trace.Steps < p.Steps && h.End == 0 {
		i, there := plainFetch(m, h.PC)
		if !there {
			h.End = 6
			r.trace.Steps++
			break
		}
		a, _ := hart.Ask(h, i)
		e := r.answer(a, p)
		if r.needs != 0 {
			break
		}
		made := -1
		if e.Kind != 0 {
			e.Hart, made = number, e.At
		}
		r.log = append(r.log, logged{a, made})
		hangs, e.Deps, _ = taint.Step(hangs, i, made)
		r.keep(e)
		h, _ = hart.Step(h, i, e.Load, e.Kind == 4)
		r.trace.Steps++
	}
	r.trace.End = h
	return r
}

// answer takes the picks that an ask needs, and answers the event that it makes, if it makes one, without its deps.
func (r *plainRun) answer(a api.Ask, p api.Picks) api.Event {
	e := api.Event{At: len(r.trace.Events), Addr: a.Addr, Aq: a.Aq, Rl: a.Rl}
	switch a.Kind {
	case api.AskLoad, api.AskLR, api.AskAmo:
		if r.loads == len(p.Loads) {
			r.needs = 1
			return e
		}
		e.Kind, e.Load = map[int]int{1: 1, 3: 3, 5: 5}[a.Kind], p.Loads[r.loads]
		r.loads++
		if a.Kind == api.AskAmo {
			e.Store, _ = alu.Amo(a.Op, e.Load, a.Value)
		}
	case api.AskStore:
		e.Kind, e.Store = 2, a.Value
	case api.AskSC:
		if r.wins == len(p.Wins) {
			r.needs = 2
			return e
		}
		if pair := plainPair(r.log, a.Addr); pair >= 0 && p.Wins[r.wins] {
			e.Kind, e.Store, e.Pair = 4, a.Value, pair
		}
		r.wins++
	case api.AskFence:
		e.Kind, e.Pred, e.Succ = 6, a.Pred, a.Succ
	case api.AskOut:
		r.trace.Outs = append(r.trace.Outs, a.Value)
	case api.AskMark:
		r.trace.Marks = append(r.trace.Marks, api.Mark{Kind: a.Op, Value: a.Value, At: e.At})
	}
	return e
}

// keep keeps an event, with those deps that its kind has.
func (r *plainRun) keep(e api.Event) {
	switch e.Kind {
	case 0:
		return
	case 1, 3:
		e.Deps.Data = nil
	case 6:
		e.Deps = api.Deps{}
	}
	r.trace.Events = append(r.trace.Events, e)
}

// plainCut answers a trace with its first so many events.
func plainCut(t api.Trace, events int) api.Trace {
	for len(t.Events) > max(events, 0) {
		t.Events = t.Events[:len(t.Events)-1]
	}
	many := len(t.Events)
	t.Marks = slices.DeleteFunc(slices.Clone(t.Marks), func(m api.Mark) bool { return m.At > many })
	return t
}

// dice is a row of numbers without a rule to be seen in it, always the same.
type dice uint64

func (d *dice) below(n int) int {
	*d = *d*6364136223846793005 + 1442695040888963407
	return int(uint64(*d)>>33) % n
}

func pick[T any](d *dice, l ...T) T {
	return l[d.below(len(l))]
}

// line answers the text of an instruction at random.
func (d *dice) line() string {
	x := func() string { return pick(d, "x1", "x2", "x3", "x4", "x5") }
	// Registers that mostly have an address.
	a := func() string { return pick(d, "x6", "x6", "x7", "x7", "x6", "x7", "x8", "x5") }
	mark := func() string { return pick(d, "", ".aq", ".rl", ".aqrl") }
	near := func() int { return 4 * (d.below(9) - 3) }
	switch d.below(22) {
	case 0, 1, 2:
		return fmt.Sprintf("ld %s, %d(%s)", x(), pick(d, 0, 0, 8, -8, 16), a())
	case 3, 4:
		return fmt.Sprintf("sd %s, %d(%s)", x(), pick(d, 0, 0, 8, -8, 16), a())
	case 5, 6:
		return fmt.Sprintf("lr.d%s %s, (%s)", mark(), x(), a())
	case 7, 8, 9:
		return fmt.Sprintf("sc.d%s %s, %s, (%s)", mark(), x(), x(), a())
	case 10:
		op := pick(d, "swap", "add", "xor", "and", "or", "min", "max", "minu", "maxu")
		return fmt.Sprintf("amo%s.d%s %s, %s, (%s)", op, mark(), x(), x(), a())
	case 11:
		return pick(d, "fence rw, rw", "fence w, w", "fence 0, 0", "fence iorw, r")
	case 12, 13:
		return fmt.Sprintf("addi x0, %s, %d", x(), 1+d.below(5))
	case 14, 15:
		return fmt.Sprintf("%s %s, %s, %s", pick(d, "add", "xor", "mul", "sltu", "subw"), x(), x(), x())
	case 16, 17:
		return fmt.Sprintf("%s %s, %s, %d", pick(d, "beq", "bne", "blt", "bgeu"), x(), x(), near())
	case 18:
		return fmt.Sprintf("jal %s, %d", pick(d, "x0", "x1"), near())
	case 19:
		return fmt.Sprintf("addi %s, %s, %d", pick(d, "x5", "x10", "x17", "x1", "x8"), pick(d, "x0", "x0", "x3", "x6"), pick(d, 0, 1, 8, 24, 1))
	case 20:
		return pick(d, "ecall", "ecall", "addi x17, x0, 1", "addi x10, x5, 3")
	}
	return d.seldom()
}

// seldom answers the text of an instruction by which many runs end.
func (d *dice) seldom() string {
	return pick(d, "ebreak", "lw x1, 0(x6)", "sb x1, 0(x6)", "amoadd.w x1, x2, (x6)", "ld x2, 4(x6)",
		"jalr x1, 0(x4)", "jalr x5, 4(x4)", "jal x0, 2", "lui x3, 1", "auipc x2, 0", ".00000000", ".0000100f")
}

// program answers an image at random, of one hart or a few.
func (d *dice) program(t *testing.T) api.Image {
	t.Helper()
	m := api.Image{Base: pick[uint64](d, 0, 4, 4096, 1<<31-4)}
	var lines []string
	for range 1 + d.below(24) {
		lines = append(lines, d.line())
		if d.below(12) == 0 {
			lines = append(lines, "lr.d x1, (x6)", d.line(), "sc.d x2, x3, (x6)")
		}
	}
	m.Words = words(t, lines...)
	for range 1 + d.below(3) {
		h := api.Hart{PC: m.Base + 4*uint64(d.below(1+len(lines)/2))}
		for x := 1; x < 32; x++ {
			h.X[x] = pick(d, numbers()...)
		}
		h.X[4] = m.Base + 4*uint64(d.below(len(lines)))
		h.X[6], h.X[7], h.X[8] = 4096, pick[uint64](d, 4096, 4104), pick[uint64](d, 0, 8, 1<<63, math.MaxUint64-7)
		h.X[17] = pick[uint64](d, 1, 1, 1, 0, 2)
		m.Start = append(m.Start, h)
	}
	return m
}

// picks answers picks at random.
func (d *dice) picks() api.Picks {
	p := api.Picks{Steps: pick(d, 0, 1, 5, 20, 40, 60)}
	for range pick(d, 0, 1, 3, 10, 40) {
		p.Loads = append(p.Loads, pick(d, numbers()...))
	}
	for range pick(d, 0, 1, 3, 10, 40) {
		p.Wins = append(p.Wins, d.below(4) > 0)
	}
	return p
}

// numbers are some with edges among them.
func numbers() []uint64 {
	return []uint64{0, 0, 1, 1, 2, 7, 8, 16, 4096, 4104, 1<<32 + 8, 1<<63 - 1, 1 << 63, math.MaxUint64 - 7, math.MaxUint64}
}

// many goes through runs at random.
func many(t *testing.T, seed dice, times int, each func(m api.Image, number int, p api.Picks)) {
	t.Helper()
	d := seed
	for range times {
		m := d.program(t)
		for range 3 {
			each(m, d.below(len(m.Start)), d.picks())
			if t.Failed() {
				return
			}
		}
	}
}

func TestReferenceMeetsAllThatThereIs(t *testing.T) {
	met := map[string]int{}
	many(t, 1, 3000, func(m api.Image, number int, p api.Picks) {
		r := plain(m, number, p)
		met[fmt.Sprint("end ", r.trace.End.End)]++
		met[fmt.Sprint("needs ", r.needs)]++
		for _, e := range r.trace.Events {
			met[fmt.Sprint("event ", e.Kind)]++
			for name, l := range map[string][]int{"addr": e.Deps.Addr, "data": e.Deps.Data, "way": e.Deps.Way} {
				if len(l) > 0 {
					met[name]++
				}
			}
		}
		met["out"] += len(r.trace.Outs)
		met["mark"] += len(r.trace.Marks)
		if r.wins > 0 {
			met["sc"]++
		}
	})
	for _, name := range strings.Split("end 0,end 1,end 2,end 3,end 4,end 5,end 6,needs 0,needs 1,needs 2,"+
		"event 1,event 2,event 3,event 4,event 5,event 6,addr,data,way,out,mark,sc", ",") {
		if met[name] < 40 {
			t.Errorf("%s: met %d times alone", name, met[name])
		}
	}
}
