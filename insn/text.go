package insn

import (
	"strconv"
	"strings"

	"fencepost/api"
)

// part is a part of what a fence stands between, and its letter.
type part struct {
	bit    int
	letter string
}

// parts answers a fence's parts in the order of a text.
func parts() [4]part {
	return [4]part{{api.FenceI, "i"}, {api.FenceO, "o"}, {api.FenceR, "r"}, {api.FenceW, "w"}}
}

// Text answers an instruction's text.
func Text(i api.Insn) (string, api.Errno) {
	if err := Check(i); err != api.OK {
		return "", err
	}
	var w writer
	r := look(i.Op)
	w.put(r.name)
	for _, field := range shape(i.Op, r.form) {
		w.field(field, i)
	}
	return w.text.String(), api.OK
}

// Read answers the instruction whose text s is.
func Read(s string) (api.Insn, api.Errno) {
	r := reader{rest: s}
	i := r.insn()
	// The reader takes more than texts: what it read is s's only if s is its text, to the byte.
	if text, err := Text(i); err != api.OK || text != s {
		return api.Insn{}, api.ErrBad
	}
	return i, api.OK
}

// writer puts a text together.
type writer struct {
	text strings.Builder
}

func (w *writer) put(pieces ...string) {
	for _, p := range pieces {
		w.text.WriteString(p)
	}
}

// field puts what a letter of a shape stands for.
func (w *writer) field(letter rune, i api.Insn) {
	switch letter {
	case 'd':
		w.register(i.Rd)
	case '1':
		w.register(i.Rs1)
	case '2':
		w.register(i.Rs2)
	case 'i':
		w.put(strconv.FormatInt(i.Imm, 10))
	case 'm':
		w.marks(i.Aq, i.Rl)
	case 'p':
		w.between(i.Pred)
	case 's':
		w.between(i.Succ)
	default:
		w.put(string(letter))
	}
}

func (w *writer) register(x int) {
	w.put("x", strconv.Itoa(x))
}

func (w *writer) marks(aq, rl bool) {
	if aq || rl {
		w.put(".")
	}
	if aq {
		w.put("aq")
	}
	if rl {
		w.put("rl")
	}
}

func (w *writer) between(set int) {
	if set == 0 {
		w.put("0")
	}
	for _, p := range parts() {
		if set&p.bit != 0 {
			w.put(p.letter)
		}
	}
}

// reader takes a text apart from its beginning on; what is not there counts as nothing, and is left out.
type reader struct {
	rest string
}

// eat takes a prefix away, and tells whether it was there.
func (r *reader) eat(prefix string) bool {
	rest, there := strings.CutPrefix(r.rest, prefix)
	r.rest = rest
	return there
}

func (r *reader) insn() api.Insn {
	i := api.Insn{Op: r.op()}
	for _, field := range shape(i.Op, Form(i.Op)) {
		r.field(field, &i)
	}
	return i
}

// op takes the longest name that is there: some names begin with another one.
func (r *reader) op() int {
	longest := row{}
	found := 0
	for op, o := range table() {
		if len(o.name) > len(longest.name) && strings.HasPrefix(r.rest, o.name) {
			longest, found = o, op
		}
	}
	r.eat(longest.name)
	return found
}

// field takes what a letter of a shape stands for.
func (r *reader) field(letter rune, i *api.Insn) {
	switch letter {
	case 'd':
		i.Rd = r.register()
	case '1':
		i.Rs1 = r.register()
	case '2':
		i.Rs2 = r.register()
	case 'i':
		i.Imm = r.number()
	case 'm':
		i.Aq, i.Rl = r.marks()
	case 'p':
		i.Pred = r.between()
	case 's':
		i.Succ = r.between()
	default:
		r.eat(string(letter))
	}
}

func (r *reader) register() int {
	r.eat("x")
	return int(r.number())
}

// number takes digits and signs; what is no number counts as 0.
func (r *reader) number() int64 {
	behind := strings.TrimLeft(r.rest, "-0123456789")
	digits := strings.TrimSuffix(r.rest, behind)
	r.eat(digits)
	v, err := strconv.ParseInt(digits, 10, 64)
	if err != nil {
		return 0
	}
	return v
}

func (r *reader) marks() (aq, rl bool) {
	if r.eat(".") {
		aq = r.eat("aq")
		rl = r.eat("rl")
	}
	return aq, rl
}

func (r *reader) between() int {
	r.eat("0")
	set := 0
	for _, p := range parts() {
		if r.eat(p.letter) {
			set |= p.bit
		}
	}
	return set
}
