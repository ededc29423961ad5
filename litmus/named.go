package litmus

import (
	"fencepost/api"
	"fencepost/code"
	"fencepost/hart"
	"fencepost/insn"
)

// example is a test that has a name: its two harts' texts.
type example struct {
	name  string
	harts [2][]string
}

// examples answers all tests that have names.
func examples() []example {
	return []example{
		{"sb", [2][]string{{"sd x5, 0(x6)", "ld x10, 0(x7)"}, {"sd x5, 0(x7)", "ld x10, 0(x6)"}}},
		{"mp", [2][]string{{"sd x5, 0(x6)", "sd x5, 0(x7)"}, {"ld x10, 0(x7)", "ld x11, 0(x6)"}}},
		{"lb", [2][]string{{"ld x10, 0(x6)", "sd x5, 0(x7)"}, {"ld x10, 0(x7)", "sd x5, 0(x6)"}}},
		{"corr", [2][]string{{"sd x5, 0(x6)"}, {"ld x10, 0(x6)", "ld x11, 0(x6)"}}},
		{"sbf", [2][]string{{"sd x5, 0(x6)", "fence w, r", "ld x10, 0(x7)"}, {"sd x5, 0(x7)", "fence w, r", "ld x10, 0(x6)"}}},
		{"mpf", [2][]string{{"sd x5, 0(x6)", "fence w, w", "sd x5, 0(x7)"}, {"ld x10, 0(x7)", "fence r, r", "ld x11, 0(x6)"}}},
		{"lbd", [2][]string{{"ld x10, 0(x6)", "sd x10, 0(x7)"}, {"ld x10, 0(x7)", "sd x10, 0(x6)"}}},
	}
}

// Names answers the names of all tests that have one.
func Names() []string {
	var l []string
	for _, e := range examples() {
		l = append(l, e.name)
	}
	return l
}

// Named answers the test of a name, and whether there is one.
func Named(name string) (api.Litmus, bool) {
	for _, e := range examples() {
		if e.name == name {
			return e.test(), true
		}
	}
	return api.Litmus{}, false
}

// test answers an example as a test: what its harts load is looked at.
func (e example) test() api.Litmus {
	const at6, at7, in5 = 4096, 4104, 1
	var l api.Litmus
	for number, texts := range e.harts {
		h := hart.New(uint64(wordBytes * len(l.Image.Words)))
		h.X[5], h.X[6], h.X[7] = in5, at6, at7
		l.Image.Start = append(l.Image.Start, h)
		for _, text := range texts {
			i, _ := insn.Read(text)
			w, _ := code.Word(i)
			l.Image.Words = append(l.Image.Words, w)
			if x := insn.Writes(i); x != 0 {
				l.Look = append(l.Look, api.Reg{Hart: number, X: x})
			}
		}
		stop, _ := code.Word(api.Insn{Op: api.RvEbreak})
		l.Image.Words = append(l.Image.Words, stop)
	}
	return l
}
