package litmus_test

import (
	"fmt"
	"slices"
	"strconv"
	"strings"
	"testing"

	"fencepost/alu"
	"fencepost/api"
	"fencepost/axiom"
	"fencepost/code"
	"fencepost/hart"
	"fencepost/insn"
	"fencepost/run"
)

// What the tests hold the package against: the chapter told once more, by going through all runs, all orders, all Froms, and all that harts may do step by step.

// none stands for a number where there is none.
const none = -1

// lines are a hart's instructions: their texts, or a dot and a word's digits.
type lines []string

// words answers the words of lines.
func words(t *testing.T, l ...string) []uint32 {
	t.Helper()
	var all []uint32
	for _, line := range l {
		if digits, raw := strings.CutPrefix(line, "."); raw {
			w, err := strconv.ParseUint(digits, 16, 32)
			if err != nil {
				t.Fatalf("%q is no word", line)
			}
			all = append(all, uint32(w))
			continue
		}
		i, err := insn.Read(line)
		if err != api.OK {
			t.Fatalf("%q is no instruction's text", line)
		}
		w, _ := code.Word(i)
		all = append(all, w)
	}
	return all
}

// litmusOf answers a test at 0 of harts' lines, an ebreak behind each: x5 is 1, x6 8, x7 16, x8 24, of each hart; x10 and x11 of each are looked at.
func litmusOf(t *testing.T, harts ...lines) api.Litmus {
	t.Helper()
	var l api.Litmus
	for number, h := range harts {
		s := api.Hart{PC: 4 * uint64(len(l.Image.Words))}
		s.X[5], s.X[6], s.X[7], s.X[8] = 1, 8, 16, 24
		l.Image.Start = append(l.Image.Start, s)
		l.Image.Words = append(append(l.Image.Words, words(t, h...)...), words(t, "ebreak")...)
		l.Look = append(l.Look, api.Reg{Hart: number, X: 10}, api.Reg{Hart: number, X: 11})
	}
	return l
}

// looking answers a test in which other registers are looked at: a hart, an x, and so on.
func looking(l api.Litmus, regs ...int) api.Litmus {
	l.Look = nil
	for ; len(regs) > 0; regs = regs[2:] {
		l.Look = append(l.Look, api.Reg{Hart: regs[0], X: regs[1]})
	}
	return l
}

// at answers cells: an address, its value, and so on.
func at(l ...uint64) []api.Cell {
	var cells []api.Cell
	for ; len(l) > 0; l = l[2:] {
		cells = append(cells, api.Cell{Addr: l[0], Value: l[1]})
	}
	return cells
}

// with answers a test with this in memory at first.
func with(l api.Litmus, first ...uint64) api.Litmus {
	l.First = at(first...)
	return l
}

// told tells all that a value has; a nil list as an empty one.
func told(v any) string { return fmt.Sprintf("%+v", v) }

// tell tells a test so that it can be read.
func tell(l api.Litmus) string {
	var b strings.Builder
	for n, text := range code.Dump(l.Image.Words) {
		pc := l.Image.Base + 4*uint64(n)
		for number, h := range l.Image.Start {
			if h.PC == pc {
				fmt.Fprintf(&b, "\nhart %d %v:", number, h.X)
			}
		}
		b.WriteString("\n\t" + text)
	}
	return told(l.First) + told(l.Look) + b.String()
}

// plainMay tells whether a test may be, tiny or not.
func plainMay(l api.Litmus) bool {
	m := l.Image
	good := m.Base&3 == 0 && m.Base>>31 == 0 && len(m.Words) <= 65536 && 1 <= len(m.Start) && len(m.Start) <= 4
	for _, h := range m.Start {
		good = good && h.X[0] == 0 && h.End == 0 && h.Code == 0
		there := false
		for n := range m.Words {
			there = there || h.PC == m.Base+4*uint64(n)
		}
		good = good && there
	}
	for n, c := range l.First {
		good = good && c.Addr&7 == 0 && (n == 0 || l.First[n-1].Addr < c.Addr)
	}
	for _, r := range l.Look {
		good = good && 0 <= r.Hart && r.Hart < len(m.Start) && 0 <= r.X && r.X <= 31
	}
	return good && 1 <= len(l.Look) && len(l.Look) <= 8
}

// plainWay answers the texts of a hart's way.
func plainWay(m api.Image, number int) []string {
	l := code.Dump(m.Words[(m.Start[number].PC-m.Base)/4:])
	for n, text := range l {
		if text == "ebreak" || text[0] == '.' {
			return l[:n]
		}
	}
	return l
}

// nameOf answers the name that an instruction's text begins with, without marks.
func nameOf(text string) string {
	name, _, _ := strings.Cut(text, " ")
	for _, mark := range []string{".aqrl", ".aq", ".rl"} {
		name = strings.TrimSuffix(name, mark)
	}
	return name
}

// isOf tells whether a text is an instruction of one of these names.
func isOf(text string, names string) bool {
	return slices.Contains(strings.Fields(names), nameOf(text))
}

const (
	plainLoads  = "ld lr.d amoswap.d amoadd.d amoxor.d amoand.d amoor.d amomin.d amomax.d amominu.d amomaxu.d"
	plainMemory = plainLoads + " sd sc.d"
	plainShort  = "lb lh lw lbu lhu lwu sb sh sw lr.w sc.w amoswap.w amoadd.w amoxor.w amoand.w amoor.w amomin.w amomax.w amominu.w amomaxu.w"
	plainGoes   = "beq bne blt bge bltu bgeu jal jalr auipc ecall"
)

// plainTiny tells whether a test that may be is tiny.
func plainTiny(l api.Litmus) bool {
	many := 0
	for number := range l.Image.Start {
		way := plainWay(l.Image, number)
		if len(way) > 64 {
			return false
		}
		for _, text := range way {
			if isOf(text, plainShort) || isOf(text, plainGoes) {
				return false
			}
			if isOf(text, plainMemory) {
				many++
			}
		}
	}
	return many <= 6 && len(plainMet(l)) <= 4
}

// plainRuns answers all whole runs of a hart by loads of these values, each once.
func plainRuns(l api.Litmus, number int, met []uint64) []api.Trace {
	loads, scs := 0, 0
	for _, text := range plainWay(l.Image, number) {
		if isOf(text, plainLoads) {
			loads++
		}
		if isOf(text, "sc.d") {
			scs++
		}
	}
	var all []api.Trace
	seen := map[string]bool{}
	for found := range lists(loads, met...) {
		for wins := range lists(scs, false, true) {
			x, err := run.Run(l.Image, number, api.Picks{Loads: found, Wins: wins, Steps: 1000})
			if err != api.OK || x.End.End == 0 {
				panic("no whole run: " + told(x))
			}
			if key := told(x); !seen[key] {
				seen[key] = true
				all = append(all, x)
			}
		}
	}
	return all
}

// lists yields all lists of so many of these.
func lists[T any](many int, of ...T) func(yield func([]T) bool) {
	return func(yield func([]T) bool) {
		all := 1
		for range many {
			all *= len(of)
		}
		for n := range all {
			var l []T
			for range many {
				l = append(l, of[n%len(of)])
				n /= len(of)
			}
			if !yield(l) {
				return
			}
		}
	}
}

// plainMet answers the values that may be met; of more than four just more than four.
func plainMet(l api.Litmus) []uint64 {
	met := []uint64{0}
	add := func(v uint64) bool {
		if slices.Contains(met, v) {
			return false
		}
		met = append(met, v)
		return true
	}
	for _, c := range l.First {
		add(c.Value)
	}
	for more := true; more && len(met) <= 4; {
		more = false
		for number := range l.Image.Start {
			if len(met) > 4 {
				break
			}
			for _, x := range plainRuns(l, number, slices.Clone(met)) {
				for _, e := range x.Events {
					if e.Kind == 2 || e.Kind == 4 || e.Kind == 5 {
						more = add(e.Store) || more
					}
				}
			}
		}
	}
	return met
}

// plainOutcome answers what is looked at of harts.
func plainOutcome(l api.Litmus, harts []api.Hart) []uint64 {
	var one []uint64
	for _, r := range l.Look {
		one = append(one, harts[r.Hart].X[r.X])
	}
	return one
}

// rising answers lists by their numbers, each once.
func rising(l [][]uint64) [][]uint64 {
	var all [][]uint64
	for _, one := range l {
		place := 0
		for place < len(all) && less(all[place], one) {
			place++
		}
		if place == len(all) || less(one, all[place]) {
			all = slices.Insert(all, place, one)
		}
	}
	return all
}

func less(a, b []uint64) bool {
	for n := range a {
		if a[n] != b[n] {
			return a[n] < b[n]
		}
	}
	return false
}

// plainModel answers the model's outcomes of a test that is tiny.
func plainModel(l api.Litmus) [][]uint64 {
	met := plainMet(l)
	var runs [][]api.Trace
	for number := range l.Image.Start {
		runs = append(runs, plainRuns(l, number, met))
	}
	var all [][]uint64
	seen := map[string]bool{}
	var chosen func(rows [][]api.Event, ends []api.Hart)
	chosen = func(rows [][]api.Event, ends []api.Hart) {
		if number := len(rows); number < len(runs) {
			for _, x := range runs[number] {
				chosen(append(slices.Clip(rows), x.Events), append(slices.Clip(ends), x.End))
			}
			return
		}
		one := plainOutcome(l, ends)
		if !seen[told(one)] && plainAllowed(l, rows) {
			seen[told(one)] = true
			all = append(all, one)
		}
	}
	chosen(nil, nil)
	return rising(all)
}

// plainAllowed tells whether there is an allowed candidate of these rows, by all Froms and all orders.
func plainAllowed(l api.Litmus, rows [][]api.Event) bool {
	all := slices.Concat(rows...)
	var numbers []int
	sources := make([][]int, len(all))
	for n, e := range all {
		sources[n] = []int{none}
		if e.Kind != 6 {
			numbers = append(numbers, n)
		}
		if e.Kind != 1 && e.Kind != 3 && e.Kind != 5 {
			continue
		}
		sources[n] = nil
		if plainFirst(l.First, e.Addr) == e.Load {
			sources[n] = []int{none}
		}
		for other, o := range all {
			if other != n && (o.Kind == 2 || o.Kind == 4 || o.Kind == 5) && o.Addr == e.Addr && o.Store == e.Load {
				sources[n] = append(sources[n], other)
			}
		}
	}
	for from := range products(sources) {
		for order := range shuffles(numbers) {
			if axiom.Ok(api.Cand{First: l.First, Harts: rows, From: from, Order: order}) {
				return true
			}
		}
	}
	return false
}

// plainFirst answers what cells have at an address.
func plainFirst(l []api.Cell, addr uint64) uint64 {
	for _, c := range l {
		if c.Addr == addr {
			return c.Value
		}
	}
	return 0
}

// products yields all lists that have one of each list.
func products(l [][]int) func(yield func([]int) bool) {
	return func(yield func([]int) bool) {
		all := 1
		for _, of := range l {
			all *= len(of)
		}
		for n := range all {
			var one []int
			for _, of := range l {
				one = append(one, of[n%len(of)])
				n /= len(of)
			}
			if !yield(one) {
				return
			}
		}
	}
}

// shuffles yields all orders of a list: each number is put at each place among the ones ahead of it.
func shuffles(l []int) func(yield func([]int) bool) {
	return func(yield func([]int) bool) {
		all := 1
		for n := range l {
			all *= n + 1
		}
		for n := range all {
			var order []int
			for many, x := range l {
				order = slices.Insert(order, n%(many+1), x)
				n /= many + 1
			}
			if !yield(order) {
				return
			}
		}
	}
}

// state is all harts and memory on the way of a weave: what each one's last lr took, as long as an sc may win by it.
type state struct {
	harts  []api.Hart
	memory map[uint64]uint64
	held   []string
}

// plainTurns answers the turns' outcomes of a test that is tiny: of all that harts may do, step by step.
func plainTurns(l api.Litmus) [][]uint64 {
	s := state{harts: slices.Clone(l.Image.Start), memory: map[uint64]uint64{}, held: make([]string, len(l.Image.Start))}
	for _, c := range l.First {
		s.memory[c.Addr] = c.Value
	}
	known := map[uint64]api.Insn{}
	var all [][]uint64
	seen := map[string]bool{}
	var from func(s state)
	from = func(s state) {
		key := told(s)
		if seen[key] {
			return
		}
		seen[key] = true
		ended := true
		for number, h := range s.harts {
			if h.End != 0 {
				continue
			}
			ended = false
			if _, is := known[h.PC]; !is {
				known[h.PC], _ = run.Fetch(l.Image, h.PC)
			}
			s.steps(number, known[h.PC], from)
		}
		if ended {
			all = append(all, plainOutcome(l, s.harts))
		}
	}
	from(s)
	return rising(all)
}

// steps hands on all states that a hart's next instruction may lead to; of none it ends.
func (s state) steps(number int, i api.Insn, on func(s state)) {
	next := func(found uint64, won bool) state {
		n := state{slices.Clone(s.harts), map[uint64]uint64{}, slices.Clone(s.held)}
		for addr, v := range s.memory {
			n.memory[addr] = v
		}
		if i.Op == 0 {
			n.harts[number].End = 6
			return n
		}
		n.harts[number], _ = hart.Step(s.harts[number], i, found, won)
		return n
	}
	a, _ := hart.Ask(s.harts[number], i)
	store := func(n state, v uint64) state {
		n.memory[a.Addr] = v
		for other := range n.held {
			if other != number && n.held[other] == told(a.Addr) {
				n.held[other] = ""
			}
		}
		return n
	}
	found := s.memory[a.Addr]
	switch a.Kind {
	case api.AskStore:
		on(store(next(0, false), a.Value))
	case api.AskLR:
		n := next(found, false)
		n.held[number] = told(a.Addr)
		on(n)
	case api.AskSC:
		n := next(0, false)
		n.held[number] = ""
		on(n)
		if s.held[number] == told(a.Addr) {
			n := store(next(0, true), a.Value)
			n.held[number] = ""
			on(n)
		}
	case api.AskAmo:
		v, _ := alu.Amo(a.Op, found, a.Value)
		on(store(next(found, false), v))
	default:
		on(next(found, false))
	}
}

// plainFenced answers the words of an image with fences, and each hart's PC then.
func plainFenced(m api.Image) ([]string, []uint64) {
	var texts []string
	pcs := make([]uint64, len(m.Start))
	for n, text := range code.Dump(m.Words) {
		for number, h := range m.Start {
			if h.PC == m.Base+4*uint64(n) {
				pcs[number] = m.Base + 4*uint64(len(texts))
			}
		}
		texts = append(texts, text)
		if isOf(text, plainMemory) || isOf(text, plainShort) {
			texts = append(texts, "fence rw, rw")
		}
	}
	return texts, pcs
}
