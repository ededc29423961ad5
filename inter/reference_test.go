package inter_test

import (
	"fmt"
	"slices"
	"strconv"
	"strings"
	"testing"

	"fencepost/alu"
	"fencepost/api"
	"fencepost/axiom"
	"fencepost/cand"
	"fencepost/code"
	"fencepost/hart"
	"fencepost/insn"
	"fencepost/inter"
	"fencepost/run"
	"fencepost/taint"
)

// What the tests hold the package against: the chapter told once more, out of a log of all turns, and by looking for each thing among all events.

// none stands for a number where there is none.
const none = -1

// words answers the words of lines: instructions' texts, or a dot and a word's digits.
func words(t *testing.T, lines ...string) []uint32 {
	t.Helper()
	var l []uint32
	for _, line := range lines {
		if digits, raw := strings.CutPrefix(line, "."); raw {
			w, err := strconv.ParseUint(digits, 16, 32)
			if err != nil {
				t.Fatalf("%q is no word", line)
			}
			l = append(l, uint32(w))
			continue
		}
		i, err := insn.Read(line)
		if err != api.OK {
			t.Fatalf("%q is no instruction's text", line)
		}
		w, _ := code.Word(i)
		l = append(l, w)
	}
	return l
}

// lines are a hart's instructions.
type lines []string

// image answers an image at 0 with each hart's lines one behind the other, and a word that is none's behind each: x6 is 8, x7 16, x8 24, x17 1; x5 is 5 of hart 0, 15 of hart 1, and so on.
func image(t *testing.T, harts ...lines) api.Image {
	t.Helper()
	var m api.Image
	for number, l := range harts {
		h := api.Hart{PC: 4 * uint64(len(m.Words))}
		h.X[5], h.X[6], h.X[7], h.X[8], h.X[17] = uint64(5+10*number), 8, 16, 24, 1
		m.Start = append(m.Start, h)
		m.Words = append(append(m.Words, words(t, l...)...), 0)
	}
	return m
}

// at answers cells: an address, its value, and so on.
func at(l ...uint64) []api.Cell {
	var cells []api.Cell
	for ; len(l) > 0; l = l[2:] {
		cells = append(cells, api.Cell{Addr: l[0], Value: l[1]})
	}
	return cells
}

// times answers a line so many times.
func times(many int, line ...string) lines {
	return slices.Repeat(line, many)
}

func plainReads(e api.Event) bool  { return e.Kind == 1 || e.Kind == 3 || e.Kind == 5 }
func plainWrites(e api.Event) bool { return e.Kind == 2 || e.Kind == 4 || e.Kind == 5 }
func plainMemory(e api.Event) bool { return e.Kind >= 1 && e.Kind <= 5 }

// plainFirst answers what cells have at an address.
func plainFirst(l []api.Cell, addr uint64) uint64 {
	for _, c := range l {
		if c.Addr == addr {
			return c.Value
		}
	}
	return 0
}

// plainCheck tells whether a weave may be done over an image.
func plainCheck(m api.Image, w api.Weave) bool {
	good := m.Base&3 == 0 && m.Base>>31 == 0 && len(m.Words) <= 65536 && 1 <= len(m.Start) && len(m.Start) <= 8
	for _, h := range m.Start {
		good = good && h.X[0] == 0 && h.End == 0 && h.Code == 0
	}
	for n, c := range w.First {
		good = good && c.Addr&7 == 0 && (n == 0 || w.First[n-1].Addr < c.Addr)
	}
	return good && len(w.Harts) <= 65536
}

// logged is a line of the log: whose turn it was, what was asked, the event that was made, if one was.
type logged struct {
	hart  int
	asked api.Ask
	event api.Event
}

// plainly is a weave that is done, told by its log.
type plainly struct {
	image  api.Image
	first  []api.Cell
	harts  []api.Hart
	hangs  []api.Taint
	traces []api.Trace
	log    []logged
	// wins tells of an sc that may win whether it does; said has what it told.
	wins func(hart int) bool
	said []bool
}

func begin(m api.Image, first []api.Cell, wins func(hart int) bool) *plainly {
	p := &plainly{image: m, first: first, harts: slices.Clone(m.Start), wins: wins}
	p.hangs, p.traces = make([]api.Taint, len(m.Start)), make([]api.Trace, len(m.Start))
	return p
}

// last answers the line of the log by which an address was stored to last.
func (p *plainly) last(addr uint64) int {
	for line := len(p.log) - 1; line >= 0; line-- {
		if e := p.log[line].event; plainWrites(e) && e.Addr == addr {
			return line
		}
	}
	return none
}

// value answers what memory has now.
func (p *plainly) value(addr uint64) uint64 {
	if line := p.last(addr); line != none {
		return p.log[line].event.Store
	}
	return plainFirst(p.first, addr)
}

// pair answers the place of the lr by which an sc of a hart at an address may win, or none.
func (p *plainly) pair(hart int, addr uint64) int {
	for line := len(p.log) - 1; line >= 0; line-- {
		l := p.log[line]
		switch {
		case l.hart != hart && plainWrites(l.event) && l.event.Addr == addr:
			return none
		case l.hart == hart && l.asked.Kind == api.AskSC:
			return none
		case l.hart == hart && l.asked.Kind == api.AskLR && l.asked.Addr == addr:
			return l.event.At
		case l.hart == hart && l.asked.Kind == api.AskLR:
			return none
		}
	}
	return none
}

// turn turns a hart.
func (p *plainly) turn(number int) {
	h, trace := &p.harts[number], &p.traces[number]
	if h.End != 0 {
		return
	}
	trace.Steps++
	i, err := run.Fetch(p.image, h.PC)
	if err != api.OK {
		h.End = 6
		return
	}
	asked, _ := hart.Ask(*h, i)
	e := p.event(number, asked)
	made := none
	if e.Kind != 0 {
		made = e.At
	}
	var deps api.Deps
	p.hangs[number], deps, _ = taint.Step(p.hangs[number], i, made)
	switch e.Kind {
	case 1, 3:
		e.Deps = api.Deps{Addr: deps.Addr, Way: deps.Way}
	case 2, 4, 5:
		e.Deps = deps
	}
	if e.Kind != 0 {
		trace.Events = append(trace.Events, e)
	}
	p.log = append(p.log, logged{number, asked, e})
	*h, _ = hart.Step(*h, i, e.Load, e.Kind == 4)
}

// event answers the event that a hart's ask makes now, if it makes one, without its deps; what it tells goes to the trace.
func (p *plainly) event(number int, a api.Ask) api.Event {
	trace := &p.traces[number]
	e := api.Event{Hart: number, At: len(trace.Events), Addr: a.Addr, Aq: a.Aq, Rl: a.Rl}
	switch a.Kind {
	case api.AskLoad:
		e.Kind, e.Load = 1, p.value(a.Addr)
	case api.AskStore:
		e.Kind, e.Store = 2, a.Value
	case api.AskLR:
		e.Kind, e.Load = 3, p.value(a.Addr)
	case api.AskSC:
		if pair := p.pair(number, a.Addr); pair != none {
			won := p.wins(number)
			p.said = append(p.said, won)
			if won {
				e.Kind, e.Store, e.Pair = 4, a.Value, pair
			}
		}
	case api.AskAmo:
		e.Kind, e.Load = 5, p.value(a.Addr)
		e.Store, _ = alu.Amo(a.Op, e.Load, a.Value)
	case api.AskFence:
		e = api.Event{Hart: number, At: e.At, Kind: 6, Pred: a.Pred, Succ: a.Succ}
	case api.AskOut:
		trace.Outs = append(trace.Outs, a.Value)
	case api.AskMark:
		trace.Marks = append(trace.Marks, api.Mark{Kind: a.Op, Value: a.Value, At: e.At})
	}
	return e
}

// number answers the number of a hart's event.
func (p *plainly) number(e api.Event) int {
	n := e.At
	for _, t := range p.traces[:e.Hart] {
		n += len(t.Events)
	}
	return n
}

// woven answers what came of it.
func (p *plainly) woven() api.Woven {
	w := api.Woven{Cand: api.Cand{First: p.first}}
	for number, trace := range p.traces {
		trace.End = p.harts[number]
		w.Traces = append(w.Traces, trace)
		w.Cand.Harts = append(w.Cand.Harts, trace.Events)
		w.Cand.From = append(w.Cand.From, slices.Repeat([]int{none}, len(trace.Events))...)
	}
	log := p.log
	for line, l := range log {
		if !plainMemory(l.event) {
			continue
		}
		n := p.number(l.event)
		w.Cand.Order = append(w.Cand.Order, n)
		p.log = log[:line]
		if from := p.last(l.event.Addr); plainReads(l.event) && from != none {
			w.Cand.From[n] = p.number(log[from].event)
		}
	}
	p.log = log
	w.Memory = p.memory()
	return w
}

// memory answers what memory has now.
func (p *plainly) memory() []api.Cell {
	addrs := map[uint64]bool{}
	for _, c := range p.first {
		addrs[c.Addr] = true
	}
	for _, l := range p.log {
		addrs[l.asked.Addr] = true
	}
	var cells []api.Cell
	for addr := range addrs {
		if v := p.value(addr); v != 0 {
			cells = append(cells, api.Cell{Addr: addr, Value: v})
		}
	}
	slices.SortFunc(cells, func(a, b api.Cell) int {
		if a.Addr < b.Addr {
			return -1
		}
		return 1
	})
	return cells
}

// modulo answers x modulo many, by counting on or back.
func modulo(x, many int) int {
	for x < 0 {
		x += many
	}
	for x >= many {
		x -= many
	}
	return x
}

// plainDo answers what comes of a weave that may be done, whose turns are near 0.
func plainDo(m api.Image, w api.Weave) *plainly {
	p := begin(m, w.First, nil)
	p.wins = func(int) bool { return len(p.said) >= len(w.Wins) || w.Wins[len(p.said)] }
	for _, turn := range w.Harts {
		p.turn(modulo(turn, len(m.Start)))
	}
	return p
}

// events answers a candidate's events by number.
func events(c api.Cand) []api.Event { return slices.Concat(c.Harts...) }

// plainPlain tells whether a candidate that may be is plain.
func plainPlain(c api.Cand) bool {
	all := events(c)
	place := func(n int) int { return slices.Index(c.Order, n) }
	for a := range all {
		for b := a + 1; b < len(all); b++ {
			if all[a].Hart == all[b].Hart && plainMemory(all[a]) && plainMemory(all[b]) && place(a) > place(b) {
				return false
			}
		}
	}
	for n, e := range all {
		source := none
		for _, other := range c.Order[:max(0, place(n))] {
			if plainWrites(all[other]) && all[other].Addr == e.Addr {
				source = other
			}
		}
		if plainReads(e) && c.From[n] != source {
			return false
		}
	}
	return true
}

// plainShared answers a candidate that may be, cut to a range.
func plainShared(c api.Cand, from, to uint64) api.Cand {
	in := func(addr uint64) bool { return addr >= from && addr < to }
	stays := func(e api.Event) bool { return e.Kind == 6 || in(e.Addr) }
	// many answers how many of a list's events stay.
	many := func(l []api.Event) int {
		return len(slices.DeleteFunc(slices.Clone(l), func(e api.Event) bool { return !stays(e) }))
	}
	all, cut := events(c), api.Cand{}
	for _, cell := range c.First {
		if in(cell.Addr) {
			cut.First = append(cut.First, cell)
		}
	}
	for _, l := range c.Harts {
		places := func(old []int) []int {
			var fresh []int
			for _, at := range old {
				if stays(l[at]) {
					fresh = append(fresh, many(l[:at]))
				}
			}
			return fresh
		}
		var row []api.Event
		for at, e := range l {
			if !stays(e) {
				continue
			}
			e.At = many(l[:at])
			if e.Kind == 4 {
				e.Pair = many(l[:e.Pair])
			}
			e.Deps = api.Deps{Addr: places(e.Deps.Addr), Data: places(e.Deps.Data), Way: places(e.Deps.Way)}
			row = append(row, e)
		}
		cut.Harts = append(cut.Harts, row)
	}
	for n, e := range all {
		switch {
		case stays(e) && c.From[n] == none:
			cut.From = append(cut.From, none)
		case stays(e):
			cut.From = append(cut.From, many(all[:c.From[n]]))
		}
	}
	for _, n := range c.Order {
		if stays(all[n]) {
			cut.Order = append(cut.Order, many(all[:n]))
		}
	}
	return cut
}

// plainSteps answers how many steps of a run make each of a row's events, and whether a run makes these.
func plainSteps(m api.Image, number int, row []api.Event) ([]int, bool) {
	if number >= len(m.Start) {
		return nil, false
	}
	var p api.Picks
	var steps []int
	h := m.Start[number]
	// With more steps one of them would have waited too long.
	for len(steps) < len(row) && p.Steps < 256*len(row) && h.End == 0 {
		p.Steps++
		i, err := run.Fetch(m, h.PC)
		if err != api.OK {
			return nil, false
		}
		e := row[len(steps)]
		asked, _ := hart.Ask(h, i)
		switch asked.Kind {
		case api.AskLoad, api.AskLR, api.AskAmo:
			p.Loads = append(p.Loads, e.Load)
			steps = append(steps, p.Steps)
		case api.AskStore, api.AskFence:
			steps = append(steps, p.Steps)
		case api.AskSC:
			// One that wins is the event that comes next.
			p.Wins = append(p.Wins, e.Kind == 4)
			if e.Kind == 4 {
				steps = append(steps, p.Steps)
			}
		}
		h, _ = hart.Step(h, i, e.Load, e.Kind == 4)
	}
	t, err := run.Run(m, number, p)
	return steps, err == api.OK && told(t.Events) == told(row)
}

// plainTurns answers the turns of a candidate that may be.
func plainTurns(m api.Image, c api.Cand) ([]int, bool) {
	if !plainPlain(c) || !plainPairs(c) {
		return nil, false
	}
	var steps [][]int
	for number, row := range c.Harts {
		for len(row) > 0 && row[len(row)-1].Kind == 6 {
			row = row[:len(row)-1]
		}
		if len(row) == 0 {
			steps = append(steps, nil)
			continue
		}
		l, is := plainSteps(m, number, row)
		if !is || waits(l) > 256 {
			return nil, false
		}
		steps = append(steps, l)
	}
	var turns []int
	all, behind := events(c), make([]int, len(c.Harts))
	for _, n := range c.Order {
		e := all[n]
		many := steps[e.Hart][e.At] - behind[e.Hart]
		behind[e.Hart] += many
		turns = append(turns, slices.Repeat([]int{e.Hart}, many)...)
	}
	return turns, len(turns) <= 65536
}

// waits answers the most steps from one of these up to the next one, and up to the first one.
func waits(steps []int) int {
	most, last := 0, 0
	for _, step := range steps {
		most, last = max(most, step-last), step
	}
	return most
}

// plainPairs tells whether no other hart stores between an SC and its pair, by turns.
func plainPairs(c api.Cand) bool {
	all := events(c)
	for n, e := range all {
		if e.Kind != 4 {
			continue
		}
		from, to := slices.Index(c.Order, n-e.At+e.Pair), slices.Index(c.Order, n)
		for _, other := range c.Order[from:to] {
			if o := all[other]; plainWrites(o) && o.Addr == e.Addr && o.Hart != e.Hart {
				return false
			}
		}
	}
	return true
}

// told tells all that a value has; a nil list as an empty one.
func told(v any) string {
	return fmt.Sprintf("%+v", v)
}

// must does a weave that may be done, and holds what came of it against the reference, and to be what the words of all layers say.
func must(t *testing.T, m api.Image, w api.Weave) api.Woven {
	t.Helper()
	got, err := inter.Do(m, w)
	if err != api.OK {
		t.Fatalf("Do(%v, %+v): %d", code.Dump(m.Words), w, err)
	}
	if want := plainDo(m, w).woven(); told(got) != told(want) {
		t.Fatalf("Do(%v, %+v)\n= %s,\nwant %s", code.Dump(m.Words), w, told(got), told(want))
	}
	if !inter.Same(got, got) || told(cand.Last(got.Cand)) != told(got.Memory) {
		t.Fatalf("%s", told(got))
	}
	holdGood(t, got)
	return got
}

// holdGood holds what came of a weave to be a candidate that is allowed, and plain, and its traces to be runs.
func holdGood(t *testing.T, w api.Woven) {
	t.Helper()
	if err := cand.Check(w.Cand); err != api.OK {
		t.Fatalf("no candidate came of it: %s", told(w))
	}
	if j := axiom.Judge(w.Cand); !j.OK {
		t.Fatalf("%s: %s", axiom.Line(j), told(w))
	}
	if !inter.Plain(w.Cand) {
		t.Fatalf("not plain: %s", told(w))
	}
}

// weave answers a weave of these turns, with noughts in memory, in which each sc that may win does.
func weave(turns ...int) api.Weave { return api.Weave{Harts: turns} }

// found answers what a hart's events loaded, one behind the other.
func found(w api.Woven, hart int) []uint64 {
	var l []uint64
	for _, e := range w.Cand.Harts[hart] {
		if plainReads(e) {
			l = append(l, e.Load)
		}
	}
	return l
}
