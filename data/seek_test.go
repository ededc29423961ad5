package data_test

import (
	"math"
	"strings"
	"testing"

	"fencepost/api"
	"fencepost/data"
)

// P14.2: Find, At

// laid answers the seats of pieces that may be.
func laid(t *testing.T, l ...api.Piece) []api.Seat {
	t.Helper()
	seats, err := data.Lay(l)
	if err != api.OK {
		t.Fatalf("Lay(%v): %d", l, err)
	}
	return seats
}

// some answers seats of this and that.
func some(t *testing.T) []api.Seat {
	t.Helper()
	return laid(t, piece("a", 2, 1), piece("b", 1, -1), piece("a", 3, 0), piece("b", 1, 1), piece("ab", 2, 0))
}

func holdFind(t *testing.T, l []api.Seat, name string, hart int, want api.Seat) {
	t.Helper()
	if got, err := data.Find(l, name, hart); err != api.OK || got != want {
		t.Errorf("Find(%v, %q, %d) = %v, %d, want %v", l, name, hart, got, err, want)
	}
}

func holdNotFound(t *testing.T, l []api.Seat, name string, hart int) {
	t.Helper()
	if got, err := data.Find(l, name, hart); err != api.ErrNone || got != (api.Seat{}) {
		t.Errorf("Find(%v, %q, %d) = %v, %d", l, name, hart, got, err)
	}
}

func TestFind(t *testing.T) {
	l := some(t)
	holdFind(t, l, "b", -1, seat("b", 1, -1, 1048576))
	holdFind(t, l, "a", 0, seat("a", 3, 0, 1048584))
	holdFind(t, l, "ab", 0, seat("ab", 2, 0, 1048608))
	holdFind(t, l, "a", 1, seat("a", 2, 1, 1048624))
	holdFind(t, l, "b", 1, seat("b", 1, 1, 1048640))
}

func TestFindOfNone(t *testing.T) {
	l := some(t)
	for _, name := range []string{"", "A", "aa", "a ", "a\x00", "c", "abc", strings.Repeat("a", 1<<16), "\xff"} {
		for hart := -2; hart <= 8; hart++ {
			holdNotFound(t, l, name, hart)
		}
	}
	for _, hart := range []int{-2, 2, 7, 8, 1 << 32, 1<<32 + 1, math.MinInt, math.MaxInt} {
		holdNotFound(t, l, "a", hart)
		holdNotFound(t, l, "b", hart)
		holdNotFound(t, l, "ab", hart)
	}
	holdNotFound(t, l, "a", -1)
	holdNotFound(t, l, "b", 0)
	holdNotFound(t, l, "ab", 1)
	holdNotFound(t, nil, "a", 0)
	holdNotFound(t, []api.Seat{}, "", 0)
}

func TestFindOfSeatsThatNobodyLaid(t *testing.T) {
	l := []api.Seat{
		seat("a", 1, 0, 5), seat("a", 9, 0, 4), seat("", 0, -9, 3), seat("", 0, -9, 2), {}, seat("b", math.MinInt, math.MaxInt, 1<<64-1), seat("a", 1, 0, 5),
		seat(strings.Repeat("n", 99), -1, math.MinInt, 7),
	}
	holdFind(t, l, "a", 0, l[0])
	holdFind(t, l[1:], "a", 0, l[1])
	holdFind(t, l, "", -9, l[2])
	holdFind(t, l, "", 0, l[4])
	holdFind(t, l, "b", math.MaxInt, l[5])
	holdFind(t, l, strings.Repeat("n", 99), math.MinInt, l[7])
	holdNotFound(t, l, "b", math.MinInt)
	holdNotFound(t, l, "", -1)
}

func holdAt(t *testing.T, l []api.Seat, addr uint64, want api.Seat, double int) {
	t.Helper()
	if got, n, err := data.At(l, addr); err != api.OK || got != want || n != double {
		t.Errorf("At(%v, %d) = %v, %d, %d, want %v, %d", l, addr, got, n, err, want, double)
	}
}

func holdNoneAt(t *testing.T, l []api.Seat, addrs ...uint64) {
	t.Helper()
	for _, addr := range addrs {
		if got, n, err := data.At(l, addr); err != api.ErrNone || got != (api.Seat{}) || n != 0 {
			t.Errorf("At(%v, %d) = %v, %d, %d", l, addr, got, n, err)
		}
	}
}

func TestAt(t *testing.T) {
	l := some(t)
	holdAt(t, l, 1048576, l[0], 0)
	holdAt(t, l, 1048584, l[1], 0)
	holdAt(t, l, 1048592, l[1], 1)
	holdAt(t, l, 1048600, l[1], 2)
	holdAt(t, l, 1048608, l[2], 0)
	holdAt(t, l, 1048616, l[2], 1)
	holdAt(t, l, 1048624, l[3], 0)
	holdAt(t, l, 1048632, l[3], 1)
	holdAt(t, l, 1048640, l[4], 0)
	most := laid(t, piece("x", 65536, 7))
	holdAt(t, most, 1<<20, most[0], 0)
	holdAt(t, most, 1<<20+8*40000, most[0], 40000)
	holdAt(t, most, 1<<20+8*65535, most[0], 65535)
}

func TestAtOfNone(t *testing.T) {
	l := some(t)
	// Ahead of all, behind all, far away.
	holdNoneAt(t, l, 0, 8, 1<<20-8, 1048648, 1048656, 1<<20+1<<19, 1<<32+1<<20, 1<<63, 1<<63+1<<20, 1<<64-8, 1<<64-1)
	// No multiples of 8.
	for addr := uint64(1<<20 - 16); addr < 1048664; addr++ {
		if addr%8 != 0 {
			holdNoneAt(t, l, addr)
		}
	}
	holdNoneAt(t, nil, 0, 1, 1<<20, 1<<64-8)
	holdNoneAt(t, []api.Seat{}, 0, 1, 1<<20, 1<<64-8)
	holdNoneAt(t, laid(t, piece("x", 65536, 7)), 1<<20-8, 1<<20+8*65536, 1<<20+8*65536+8)
}

func TestAtOfSeatsThatNobodyLaid(t *testing.T) {
	// The first one it stands in, wherever the others stand.
	over := []api.Seat{seat("a", 2, 0, 64), seat("b", 9, 0, 40), seat("a", 2, 0, 64), seat("c", 1, 99, 0)}
	holdAt(t, over, 64, over[0], 0)
	holdAt(t, over, 72, over[0], 1)
	holdAt(t, over, 40, over[1], 0)
	holdAt(t, over, 56, over[1], 2)
	holdAt(t, over, 80, over[1], 5)
	holdAt(t, over[1:], 64, over[1], 3)
	holdAt(t, over, 0, over[3], 0)
	holdNoneAt(t, over, 8, 32, 112)
	// Of a Size of 0, or below, there is nothing.
	for _, size := range []int{0, -1, -8, math.MinInt, math.MinInt + 1} {
		for _, addr := range []uint64{0, 8, 1 << 20, 1<<64 - 8} {
			l := []api.Seat{seat("a", size, 0, addr)}
			holdNoneAt(t, l, 0, 8, 16, 1<<20-8, 1<<20, 1<<20+8, 1<<63, 1<<64-8)
			l = append(l, seat("b", 1, 0, addr))
			holdAt(t, l, addr, l[1], 0)
		}
	}
	// One that stands at no multiple of 8 has the doubles from there on.
	odd := []api.Seat{seat("a", 2, 0, 20)}
	holdAt(t, odd, 24, odd[0], 0)
	holdAt(t, odd, 32, odd[0], 1)
	holdNoneAt(t, odd, 16, 20, 28, 36, 40)
	odd = []api.Seat{seat("a", 1, 0, 17)}
	holdAt(t, odd, 24, odd[0], 0)
	holdNoneAt(t, odd, 16, 17, 32)
}

func TestAtWhereAddressesEnd(t *testing.T) {
	const top = 1<<64 - 8
	last := []api.Seat{seat("a", 2, 0, top-8)}
	holdAt(t, last, top-8, last[0], 0)
	holdAt(t, last, top, last[0], 1)
	holdNoneAt(t, last, 0, 8, top-16, top+1)
	// What would stand behind the last address is nowhere.
	for _, size := range []int{2, 3, 1 << 16, 1 << 61, 1<<61 + 1, 1 << 62, math.MaxInt} {
		beyond := []api.Seat{seat("a", size, 0, top)}
		holdAt(t, beyond, top, beyond[0], 0)
		holdNoneAt(t, beyond, 0, 8, 16, 1<<20, top-8)
	}
	for _, size := range []int{1 << 61, 1<<61 + 1, 1 << 62, math.MaxInt} {
		whole := []api.Seat{seat("a", size, 0, 0)}
		holdAt(t, whole, 0, whole[0], 0)
		holdAt(t, whole, 8, whole[0], 1)
		holdAt(t, whole, top, whole[0], 1<<61-1)
	}
	short := []api.Seat{seat("a", 1<<61-1, 0, 0)}
	holdAt(t, short, top-8, short[0], 1<<61-2)
	holdNoneAt(t, short, top)
}
