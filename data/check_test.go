package data_test

import (
	"math"
	"slices"
	"strings"
	"testing"

	"fencepost/api"
	"fencepost/data"
)

// P14.1: Check, Size

func piece(name string, size, hart int) api.Piece {
	return api.Piece{Name: name, Size: size, Hart: hart}
}

// row answers so many pieces of one Size and Hart, each with a Name of its own.
func row(many, size, hart int) []api.Piece {
	var l []api.Piece
	for n := range many {
		l = append(l, piece("p"+name(n), size, hart))
	}
	return l
}

// name answers a Name of its own for each number.
func name(n int) string {
	s := ""
	for ; n > 0; n /= 26 {
		s += string(rune('a' + n%26))
	}
	return s
}

func holdCheck(t *testing.T, want api.Errno, l ...api.Piece) {
	t.Helper()
	if got := data.Check(l); got != want {
		t.Errorf("Check of %d pieces, %v ..: %d, want %d", len(l), l[:min(len(l), 4)], got, want)
	}
	doubles := 0
	for _, p := range l {
		doubles += p.Size
	}
	if want != api.OK {
		doubles = 0
	}
	if got := data.Size(l); got != doubles {
		t.Errorf("Size of %d pieces, %v ..: %d, want %d", len(l), l[:min(len(l), 4)], got, doubles)
	}
}

// right are names that a piece may have: 1 to 32 bytes, whatever they are.
func right() []string {
	return []string{
		"a", "cont", "a0", "A", "_", " ", "0", "-1", "\x00", "\xff", "\xff\xfe", "name of a piece", "ä", "世界",
		strings.Repeat("a", 31), strings.Repeat("a", 32), strings.Repeat("\x00", 32), strings.Repeat("é", 16), strings.Repeat("\xf0\x9f\x99\x82", 8),
	}
}

func TestCheckOfPiecesThatMayBe(t *testing.T) {
	holdCheck(t, api.OK)
	holdCheck(t, api.OK, []api.Piece{}...)
	holdCheck(t, api.OK, piece("a", 2, 1), piece("b", 1, -1))
	for _, name := range right() {
		holdCheck(t, api.OK, piece(name, 1, -1))
	}
	for _, size := range []int{1, 2, 3, 8, 255, 256, 32768, 65535, 65536} {
		holdCheck(t, api.OK, piece("a", size, 0))
	}
	for hart := -1; hart <= 7; hart++ {
		holdCheck(t, api.OK, piece("a", 3, hart))
	}
}

// wrong are pieces that may not be.
func wrong() []api.Piece {
	l := []api.Piece{{}, piece("", 0, -2), piece("", 1, 9)}
	for _, name := range []string{"", strings.Repeat("a", 33), strings.Repeat("é", 17), strings.Repeat("é", 32), strings.Repeat("\x00", 33), strings.Repeat("\xff", 64), strings.Repeat("a", 1<<16), strings.Repeat("a", 256), strings.Repeat("a", 257)} {
		l = append(l, piece(name, 1, -1), piece(name, 65536, 7))
	}
	for _, size := range []int{0, -1, -8, -65536, math.MinInt, math.MinInt + 1, 65537, 65544, 1 << 17, 1 << 32, 1<<32 + 1, math.MaxInt} {
		l = append(l, piece("a", size, -1), piece("a", size, 7))
	}
	for _, hart := range []int{-2, -3, -8, 8, 9, 255, 256, 1<<32 - 1, 1 << 32, math.MinInt, math.MaxInt} {
		l = append(l, piece("a", 1, hart), piece("b", 65536, hart))
	}
	return l
}

func TestCheckOfPiecesThatMayNotBe(t *testing.T) {
	for _, p := range wrong() {
		holdCheck(t, api.ErrArg, p)
		holdCheck(t, api.ErrArg, p, piece("c", 1, 0))
		holdCheck(t, api.ErrArg, piece("c", 1, 0), p)
		holdCheck(t, api.ErrArg, piece("c", 1, 0), p, piece("d", 1, 0))
		holdCheck(t, api.ErrArg, p, p)
	}
}

func TestCheckOfNamesThatWereThere(t *testing.T) {
	for _, name := range right() {
		for hart := -1; hart <= 7; hart++ {
			one := piece(name, 2, hart)
			holdCheck(t, api.ErrThere, one, one)
			// Whatever else they are.
			holdCheck(t, api.ErrThere, one, piece(name, 3, hart))
			holdCheck(t, api.ErrThere, piece("of another name", 1, hart), one, piece("c", 1, 0), piece("c", 1, -1), piece(name, 1, hart))
			for other := -1; other <= 7; other++ {
				if other != hart {
					holdCheck(t, api.OK, one, piece(name, 2, other))
				}
			}
			holdCheck(t, api.OK, one, piece(name[:len(name)-1]+"b", 2, hart))
		}
	}
	holdCheck(t, api.OK, piece("a", 1, 1), piece("A", 1, 1), piece("a ", 1, 1), piece(" a", 1, 1), piece("a\x00", 1, 1), piece("aa", 1, 1))
	holdCheck(t, api.OK, piece("a1", 1, 1), piece("a", 1, 1), piece("a11", 1, 1), piece("a-", 1, 1), piece("a", 1, -1), piece("a-1", 1, 1))
	holdCheck(t, api.OK, piece("\xff", 1, 0), piece("\xfe", 1, 0), piece("\ufffd", 1, 0))
	holdCheck(t, api.OK, piece("\u00e9", 1, 0), piece("e\u0301", 1, 0))
}

func TestCheckOfTheLastOneOfMany(t *testing.T) {
	l := row(1000, 1, 3)
	holdCheck(t, api.OK, l...)
	for _, at := range []int{0, 1, 500, 998} {
		was := l[999]
		l[999] = piece(l[at].Name, 5, 3)
		holdCheck(t, api.ErrThere, l...)
		l[999].Hart = 4
		holdCheck(t, api.OK, l...)
		l[999] = was
	}
}

func TestCheckOfTooManyPieces(t *testing.T) {
	for hart := -1; hart <= 7; hart++ {
		holdCheck(t, api.OK, row(1023, 1, hart)...)
		holdCheck(t, api.OK, row(1024, 1, hart)...)
		holdCheck(t, api.ErrFull, row(1025, 1, hart)...)
		holdCheck(t, api.ErrFull, row(1026, 1, hart)...)
	}
	holdCheck(t, api.OK, row(1024, 64, 2)...)
	holdCheck(t, api.OK, slices.Concat(row(512, 1, 6), row(512, 1, -1))...)
	holdCheck(t, api.ErrFull, slices.Concat(row(512, 1, 6), row(513, 1, -1))...)
	holdCheck(t, api.ErrFull, row(1<<18, 1, 0)...)
}

func TestCheckOfTooManyDoubles(t *testing.T) {
	holdCheck(t, api.OK, piece("a", 65535, -1), piece("b", 1, -1))
	holdCheck(t, api.ErrFull, piece("a", 65536, -1), piece("b", 1, -1))
	holdCheck(t, api.ErrFull, piece("a", 1, -1), piece("b", 65536, -1))
	holdCheck(t, api.ErrFull, piece("a", 65535, -1), piece("b", 2, 7))
	holdCheck(t, api.ErrFull, piece("a", 65536, 3), piece("a", 65536, 4))
	holdCheck(t, api.OK, piece("a", 32768, 0), piece("b", 16384, 5), piece("c", 16384, -1))
	holdCheck(t, api.ErrFull, piece("a", 32768, 0), piece("b", 16384, 5), piece("c", 16385, -1))
	holdCheck(t, api.ErrFull, row(1024, 65, 2)...)
	holdCheck(t, api.ErrFull, row(1024, 65536, 2)...)
	// One double more than there may be, of just as many pieces as there may be.
	l := row(1024, 64, 2)
	l[1023].Size++
	holdCheck(t, api.ErrFull, l...)
}

func TestCheckOfOneThatIsMoreThanOneThing(t *testing.T) {
	much := piece("much", 65536, 0)
	// One that may not be is told ahead of a name that was there, and of too much.
	holdCheck(t, api.ErrArg, much, piece("much", 0, 0))
	holdCheck(t, api.ErrArg, much, piece("much", 65537, 0))
	holdCheck(t, api.ErrArg, much, piece("b", 1, 8))
	holdCheck(t, api.ErrArg, append(row(1024, 1, 0), piece("", 1, 0))...)
	// A name that was there is told ahead of too much.
	holdCheck(t, api.ErrThere, much, piece("much", 1, 0))
	holdCheck(t, api.ErrThere, much, much)
	many := row(1024, 1, 0)
	holdCheck(t, api.ErrThere, append(many, many[0])...)
	holdCheck(t, api.ErrThere, append(many, many[1023])...)
	holdCheck(t, api.ErrFull, append(many, piece(many[0].Name, 1, 1))...)
}

func TestCheckTellsTheFirstOne(t *testing.T) {
	a, b, much := piece("a", 1, 0), piece("b", 1, 0), piece("c", 65536, 0)
	holdCheck(t, api.ErrThere, a, a, api.Piece{})
	holdCheck(t, api.ErrThere, a, b, a, much)
	holdCheck(t, api.ErrThere, a, b, a, much, api.Piece{})
	holdCheck(t, api.ErrFull, a, much, a)
	holdCheck(t, api.ErrFull, a, much, api.Piece{})
	holdCheck(t, api.ErrFull, a, much, much)
	holdCheck(t, api.ErrArg, a, api.Piece{}, a)
	holdCheck(t, api.ErrArg, a, api.Piece{}, much)
	many := row(1025, 1, 0)
	holdCheck(t, api.ErrFull, append(many, api.Piece{})...)
	holdCheck(t, api.ErrFull, append(many, many[0])...)
	holdCheck(t, api.ErrArg, slices.Insert(many, 1024, api.Piece{})...)
	holdCheck(t, api.ErrThere, slices.Insert(row(1024, 1, 0), 1023, many[0])...)
}
