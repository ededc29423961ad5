package data

import (
	"cmp"
	"slices"

	"fencepost/api"
)

const doubleBytes = 8

// sorted answers pieces as they are laid: all's, then hart by hart, each in its order.
func sorted(l []api.Piece) []piece {
	pieces := make([]piece, len(l))
	for at, p := range l {
		pieces[at] = piece{p}
	}
	slices.SortStableFunc(pieces, func(a, b piece) int { return cmp.Compare(a.rank(), b.rank()) })
	return pieces
}

// seated answers the seats of pieces that stand one behind the other.
func seated(l []piece) []api.Seat {
	seats, doubles := make([]api.Seat, len(l)), 0
	for at, p := range l {
		seats[at] = api.Seat{Piece: p.Piece, Addr: place(doubles)}
		doubles += p.Size
	}
	return seats
}

// place answers the address behind so many doubles.
func place(doubles int) uint64 {
	return api.DataBase + doubleBytes*uint64(doubles)
}

// double answers which of a seat's doubles an address stands in, if it stands in one.
func double(s api.Seat, addr uint64) (int, bool) {
	if s.Size <= 0 || addr < s.Addr {
		return 0, false
	}
	// A seat that nobody laid may reach beyond the last address: doubles are held against its Size, not addresses against its end.
	n := (addr - s.Addr) / doubleBytes
	if n >= uint64(s.Size) {
		return 0, false
	}
	return int(n), true
}
