package code

import (
	"sync"

	"fencepost/api"
	"fencepost/insn"
)

// book has the ops' parts. They are made once, by the first word that asks for them, for all words that the book is asked about.
type book struct {
	once sync.Once
	made map[int]parts
}

func (b *book) parts() map[int]parts {
	b.once.Do(func() { b.made = allParts() })
	return b.made
}

// op answers the op that a word's parts tell, 0 if there is none.
func (b *book) op(w uint32) int {
	told := split(w)
	for op, p := range b.parts() {
		// No two ops have the same parts: whichever comes first is the one.
		if p == told {
			return op
		}
	}
	return 0
}

func (b *book) word(i api.Insn) (uint32, api.Errno) {
	if err := insn.Check(i); err != api.OK {
		return 0, err
	}
	c := carrier{bits: b.parts()[i.Op].bare()}
	c.carry(&i)
	return uint32(c.bits), api.OK
}

func (b *book) insn(w uint32) (api.Insn, api.Errno) {
	i := api.Insn{Op: b.op(w)}
	c := carrier{bits: uint64(w), out: true}
	c.carry(&i)
	// Some words have more than parts and fields: only what the instruction comes to again is its word.
	if again, err := b.word(i); err != api.OK || again != w {
		return api.Insn{}, api.ErrBad
	}
	return i, api.OK
}

// text answers the text of a word's instruction, or the word's digits.
func (b *book) text(w uint32) string {
	i, err := b.insn(w)
	if err != api.OK {
		return "." + digits(w)
	}
	s, _ := insn.Text(i)
	return s
}

// carry carries all fields that the instruction's op has.
func (c *carrier) carry(i *api.Insn) {
	for _, f := range fields(insn.Form(i.Op)) {
		f(c, i)
	}
}
