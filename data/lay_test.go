package data_test

import (
	"math"
	"slices"
	"testing"

	"fencepost/api"
	"fencepost/data"
)

// P14.1: Lay, Part

func seat(name string, size, hart int, addr uint64) api.Seat {
	return api.Seat{Piece: piece(name, size, hart), Addr: addr}
}

func holdLay(t *testing.T, l []api.Piece, want ...api.Seat) {
	t.Helper()
	if got, err := data.Lay(l); err != api.OK || !slices.Equal(got, want) {
		t.Errorf("Lay(%v) = %v, %d, want %v", l, got, err, want)
	}
}

func TestLayOfTheExample(t *testing.T) {
	holdLay(t, []api.Piece{piece("a", 2, 1), piece("b", 1, -1)}, seat("b", 1, -1, 1048576), seat("a", 2, 1, 1048584))
}

func TestLay(t *testing.T) {
	holdLay(t, nil)
	holdLay(t, []api.Piece{})
	holdLay(t, []api.Piece{piece("x", 1, -1)}, seat("x", 1, -1, 1<<20))
	// Where nothing is all's, and hart 0 has nothing.
	holdLay(t, []api.Piece{piece("x", 7, 7)}, seat("x", 7, 7, 1<<20))
	holdLay(t, []api.Piece{piece("x", 65536, 3)}, seat("x", 65536, 3, 1<<20))
	holdLay(t, []api.Piece{piece("x", 65535, 3), piece("x", 1, -1)}, seat("x", 1, -1, 1<<20), seat("x", 65535, 3, 1<<20+8))
	// Their order is that of the list, not that of names or of sizes.
	holdLay(t, []api.Piece{piece("z", 3, -1), piece("m", 1, -1), piece("a", 2, -1), piece("n", 1, -1)},
		seat("z", 3, -1, 1048576), seat("m", 1, -1, 1048600), seat("a", 2, -1, 1048608), seat("n", 1, -1, 1048624))
	holdLay(t, []api.Piece{piece("z", 3, 4), piece("m", 1, 4), piece("a", 2, 4), piece("n", 1, 4)},
		seat("z", 3, 4, 1048576), seat("m", 1, 4, 1048600), seat("a", 2, 4, 1048608), seat("n", 1, 4, 1048624))
	holdLay(t, []api.Piece{piece("b", 1, 2), piece("z", 1, 0), piece("a", 4, 2), piece("y", 2, -1), piece("a", 1, 0), piece("q", 3, 7), piece("a", 2, -1), piece("c", 1, 1)},
		seat("y", 2, -1, 1048576), seat("a", 2, -1, 1048592), seat("z", 1, 0, 1048608), seat("a", 1, 0, 1048616),
		seat("c", 1, 1, 1048624), seat("b", 1, 2, 1048632), seat("a", 4, 2, 1048640), seat("q", 3, 7, 1048672))
}

func TestLayOfAllOrdersOfHarts(t *testing.T) {
	var l []api.Piece
	for hart := 7; hart >= -1; hart-- {
		l = append(l, piece("own", hart+2, hart))
	}
	var want []api.Seat
	addr := uint64(1048576)
	for hart := -1; hart <= 7; hart++ {
		want = append(want, seat("own", hart+2, hart, addr))
		addr += 8 * uint64(hart+2)
	}
	d := dice(1)
	for range 100 {
		holdLay(t, l, want...)
		at, other := d.below(len(l)), d.below(len(l))
		l[at], l[other] = l[other], l[at]
	}
}

func TestLayOfManyIsStable(t *testing.T) {
	// So many that a sort that is not stable would turn some.
	var l []api.Piece
	for n := range 1024 {
		l = append(l, piece("p"+name(n), 1+n%64, 5-n%3))
	}
	got, err := data.Lay(l)
	if err != api.OK || len(got) != 1024 {
		t.Fatalf("%d: %d seats", err, len(got))
	}
	at, addr := 0, uint64(1<<20)
	for hart := 3; hart <= 5; hart++ {
		for _, p := range l {
			if p.Hart != hart {
				continue
			}
			if want := (api.Seat{Piece: p, Addr: addr}); got[at] != want {
				t.Fatalf("seat %d is %v, want %v", at, got[at], want)
			}
			addr += 8 * uint64(p.Size)
			at++
		}
	}
}

// spoilt are pieces that may not be, and the errors of them.
func spoilt() map[api.Errno][]api.Piece {
	return map[api.Errno][]api.Piece{
		api.ErrArg:   {piece("a", 1, 0), piece("b", 1, 8), piece("a", 1, 0)},
		api.ErrThere: {piece("a", 1, 0), piece("b", 1, 7), piece("a", 2, 0), {}},
		api.ErrFull:  {piece("a", 65536, 0), piece("b", 1, -1), {}},
	}
}

func TestLayAndPartOfPiecesThatMayNotBe(t *testing.T) {
	for err, l := range spoilt() {
		if got, e := data.Lay(l); e != err || len(got) > 0 {
			t.Errorf("Lay(%v) = %v, %d, want %d", l, got, e, err)
		}
		// The pieces are looked at ahead of the hart.
		for _, hart := range []int{-1, 0, 7, -2, 8, math.MinInt, math.MaxInt} {
			if from, to, e := data.Part(l, hart); e != err || from != 0 || to != 0 {
				t.Errorf("Part(%v, %d) = %d, %d, %d, want %d", l, hart, from, to, e, err)
			}
		}
	}
	for _, p := range wrong() {
		if got, e := data.Lay([]api.Piece{p}); e != api.ErrArg || len(got) > 0 {
			t.Errorf("Lay(%v) = %v, %d", p, got, e)
		}
	}
}

// part is from where to where a part reaches.
type part struct {
	from, to uint64
}

// holdParts holds all's part, and that of each hart, in this order.
func holdParts(t *testing.T, l []api.Piece, want ...part) {
	t.Helper()
	for n, w := range want {
		if from, to, err := data.Part(l, n-1); err != api.OK || (part{from, to}) != w {
			t.Errorf("Part(%v, %d) = %d, %d, %d, want %v", l, n-1, from, to, err, w)
		}
	}
}

func TestPart(t *testing.T) {
	const base = 1048576
	at := func(from, to uint64) part { return part{base + from, base + to} }
	none := at(0, 0)
	holdParts(t, nil, none, none, none, none, none, none, none, none, none)
	holdParts(t, []api.Piece{}, none, none, none, none, none, none, none, none, none)
	// The example.
	l := []api.Piece{piece("a", 2, 1), piece("b", 1, -1)}
	holdParts(t, l, at(0, 8), at(8, 8), at(8, 24), at(24, 24), at(24, 24), at(24, 24), at(24, 24), at(24, 24), at(24, 24))
	// Nothing is all's.
	l = []api.Piece{piece("a", 1, 7), piece("b", 4, 0), piece("b", 2, 7)}
	holdParts(t, l, none, at(0, 32), at(32, 32), at(32, 32), at(32, 32), at(32, 32), at(32, 32), at(32, 32), at(32, 56))
	// All is all's.
	l = []api.Piece{piece("a", 65535, -1), piece("b", 1, -1)}
	end := at(1<<19, 1<<19)
	holdParts(t, l, at(0, 1<<19), end, end, end, end, end, end, end, end)
	// Each has something, one of them more.
	l = nil
	for hart := 7; hart >= -1; hart-- {
		l = append(l, piece("a", 1, hart))
	}
	l = append(l, piece("b", 3, 2))
	holdParts(t, l, at(0, 8), at(8, 16), at(16, 24), at(24, 56), at(56, 64), at(64, 72), at(72, 80), at(80, 88), at(88, 96))
}

func TestPartOfHartsThatAreNone(t *testing.T) {
	for _, l := range [][]api.Piece{nil, {piece("a", 2, 1), piece("b", 1, -1)}, row(1024, 64, 7)} {
		for _, hart := range []int{-2, -3, -255, -256, -257, math.MinInt, math.MinInt + 1, 8, 9, 255, 256, 1<<32 - 1, 1 << 32, math.MaxInt} {
			if from, to, err := data.Part(l, hart); err != api.ErrArg || from != 0 || to != 0 {
				t.Errorf("Part of hart %d = %d, %d, %d", hart, from, to, err)
			}
		}
	}
}
