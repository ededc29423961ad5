package run

import (
	"fencepost/api"
	"fencepost/code"
	"fencepost/hart"
)

const (
	wordBytes = 4

	// baseEnd is behind the greatest Base.
	baseEnd = 1 << 31
)

// Check tells whether an image may be.
func Check(m api.Image) api.Errno {
	if m.Base%wordBytes != 0 || m.Base >= baseEnd || len(m.Words) > api.MaxCode ||
		len(m.Start) == 0 || len(m.Start) > api.MaxHarts {
		return api.ErrArg
	}
	for _, h := range m.Start {
		if hart.Check(h) != api.OK {
			return api.ErrArg
		}
	}
	return api.OK
}

// Fetch answers the instruction that is fetched at a PC.
func Fetch(m api.Image, pc uint64) (api.Insn, api.Errno) {
	if err := Check(m); err != api.OK {
		return api.Insn{}, err
	}
	i, there := fetch(m, pc)
	if !there {
		return api.Insn{}, api.ErrRange
	}
	return i, api.OK
}

// fetch answers what is fetched at a PC, and whether anything is.
func fetch(m api.Image, pc uint64) (api.Insn, bool) {
	// A PC ahead of Base goes round to a place far behind the last word.
	offset := pc - m.Base
	place := offset / wordBytes
	if offset%wordBytes != 0 || place >= uint64(len(m.Words)) {
		return api.Insn{}, false
	}
	i, err := code.Insn(m.Words[place])
	return i, err == api.OK
}

// reader fetches an image's instructions. It remembers them by their PCs, since telling a word costs far more than doing it.
type reader struct {
	image api.Image
	known map[uint64]api.Insn
}

func newReader(m api.Image) reader {
	return reader{image: m, known: map[uint64]api.Insn{}}
}

// fetch answers what is fetched at a PC, and whether anything is.
func (r *reader) fetch(pc uint64) (api.Insn, bool) {
	if i, is := r.known[pc]; is {
		return i, true
	}
	i, there := fetch(r.image, pc)
	if there {
		r.known[pc] = i
	}
	return i, there
}
