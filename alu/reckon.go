package alu

import (
	"math/bits"

	"fencepost/word"
)

// How many bits of b tell by how much a shift goes.
const (
	longBits  = 6
	shortBits = 5
)

// long answers by how much a shift by b goes.
func long(b uint64) uint64 {
	return word.Low(b, longBits)
}

// short answers by how much a short op's shift by b goes.
func short(b uint64) uint64 {
	return word.Low(b, shortBits)
}

func bit(is bool) uint64 {
	if is {
		return 1
	}
	return 0
}

// high answers the high half of the product of both, not signed.
func high(a, b uint64) uint64 {
	h, _ := bits.Mul64(a, b)
	return h
}

// above answers by how much that is too much if a is signed: an a below 0 has counted 2^64 more than it is.
func above(a, b uint64) uint64 {
	if int64(a) < 0 {
		return b
	}
	return 0
}

type whole interface {
	int32 | uint32 | int64 | uint64
}

// quotient looks at 0 alone: the least number by -1 is itself to Go, too.
func quotient[N whole](a, b N) N {
	if b == 0 {
		return ^N(0)
	}
	return a / b
}

func rest[N whole](a, b N) N {
	if b == 0 {
		return a
	}
	return a % b
}
