package ppo

import (
	"iter"
	"math/bits"
)

const wordBits = 64

// set is a set of numbers, a bit for each.
type set []uint64

// empty answers a set for so many numbers, without one.
func empty(many int) set {
	return make(set, (many+wordBits-1)/wordBits)
}

func (s set) has(n int) bool {
	return s[n/wordBits]>>(n%wordBits)&1 != 0
}

func (s set) put(n int) {
	s[n/wordBits] |= 1 << (n % wordBits)
}

// numbers goes through what the set has, rising.
func (s set) numbers() iter.Seq[int] {
	return func(yield func(int) bool) {
		for at, word := range s {
			for ; word != 0; word &= word - 1 {
				if !yield(at*wordBits + bits.TrailingZeros64(word)) {
					return
				}
			}
		}
	}
}

// leads tells whether a leads to b, which is behind it, by steps.
func (v *view) leads(a, b int) bool {
	// Steps never go back: what is behind b leads nowhere here.
	reached := empty(b + 1)
	fresh := empty(b + 1)
	fresh.put(a)
	for grown := true; grown; {
		fresh, grown = v.grow(reached, fresh, b)
	}
	return reached.has(b)
}

// grow puts to those that are reached, up to b, all to which a step goes from those that are fresh; it answers the ones that are fresh now, and whether there are any.
func (v *view) grow(reached, fresh set, b int) (set, bool) {
	more, grown := empty(b+1), false
	for from := range fresh.numbers() {
		for to := from + 1; to <= b; to++ {
			if !reached.has(to) && v.first(from, to) != 0 {
				reached.put(to)
				more.put(to)
				grown = true
			}
		}
	}
	return more, grown
}
