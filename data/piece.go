package data

import (
	"fencepost/api"
)

const (
	// all stands for the hart of what is all's.
	all = -1

	maxName = 32
)

// piece is one that is asked what it is.
type piece struct {
	api.Piece
}

// title is what no two pieces have both of.
type title struct {
	name string
	hart int
}

// title answers a piece's Name, and whose it is.
func (p piece) title() title {
	return title{name: p.Name, hart: p.Hart}
}

// rank answers what pieces are laid by: all's ahead of hart 0's, and so on.
func (p piece) rank() int {
	return p.Hart - all
}

// mayBe tells whether a piece may be, whatever others there are.
func (p piece) mayBe() bool {
	return 1 <= len(p.Name) && len(p.Name) <= maxName && 1 <= p.Size && p.Size <= api.MaxData && isOwner(p.Hart)
}

// isOwner tells whether pieces may be this hart's, or all's.
func isOwner(hart int) bool {
	return all <= hart && hart < api.MaxHarts
}

// count answers how many doubles pieces have together, or what is against the first piece that is against it.
func count(l []api.Piece) (int, api.Errno) {
	met, doubles := map[title]struct{}{}, 0
	for at, one := range l {
		p := piece{one}
		if !p.mayBe() {
			return 0, api.ErrArg
		}
		if _, was := met[p.title()]; was {
			return 0, api.ErrThere
		}
		doubles += p.Size
		if at >= api.MaxPieces || doubles > api.MaxData {
			return 0, api.ErrFull
		}
		met[p.title()] = struct{}{}
	}
	return doubles, api.OK
}
