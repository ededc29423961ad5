// Package word is layer 1: parts of words, how numbers stand in bits.
package word

const (
	wordBits  = 64
	shortBits = 32
	byteBits  = 8
	wordBytes = wordBits / byteBits

	allOnes = ^uint64(0)
)

// clamp answers n, or the end of 0 to high that it lies beyond.
func clamp(n, high int) int {
	if n < 0 {
		return 0
	}
	if n > high {
		return high
	}
	return n
}

// Ones answers the number whose n lowest bits are ones.
func Ones(n int) uint64 {
	return ^(allOnes << uint(clamp(n, wordBits)))
}

// Low answers x's n lowest bits alone.
func Low(x uint64, n int) uint64 {
	return x & Ones(n)
}

// Part answers x's n bits from bit from on, moved down to bit 0.
func Part(x uint64, from, n int) uint64 {
	// A from of 64 shifts all bits out, as any greater one would.
	return Low(x>>uint(clamp(from, wordBits)), n)
}

// Put answers x with v's n lowest bits from bit from on.
func Put(x uint64, from, n int, v uint64) uint64 {
	at := uint(clamp(from, wordBits))
	mask := Ones(n) << at
	return (x &^ mask) | ((v << at) & mask)
}

// Sign answers x's n lowest bits as a signed number of n bits.
func Sign(x uint64, n int) int64 {
	spare := uint(wordBits - clamp(n, wordBits))
	return int64(x<<spare) >> spare
}

// Fits tells whether v is a signed number of n bits.
func Fits(v int64, n int) bool {
	return Sign(uint64(v), n) == v
}

// Short answers x's lowest 32 bits as a signed number, in 64 bits.
func Short(x uint64) uint64 {
	return uint64(Sign(x, shortBits))
}

// Bytes answers x's n lowest bytes, the low one first.
func Bytes(x uint64, n int) []byte {
	b := make([]byte, clamp(n, wordBytes))
	for i := range b {
		b[i] = byte(x >> uint(i*byteBits))
	}
	return b
}

// Of answers the number that b's first 8 bytes are, or fewer, the low one first.
func Of(b []byte) uint64 {
	var x uint64
	for i := range clamp(len(b), wordBytes) {
		x |= uint64(b[i]) << uint(i*byteBits)
	}
	return x
}
