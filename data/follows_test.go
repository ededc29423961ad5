package data_test

import (
	"testing"

	"fencepost/api"
	"fencepost/data"
)

// P14.3

// holdFollows holds what follows of pieces that may be: their seats stand side by side, within their parts, and each double is found.
func holdFollows(t *testing.T, l []api.Piece) {
	t.Helper()
	seats := laid(t, l...)
	if len(seats) != len(l) {
		t.Fatalf("%d seats of %d pieces", len(seats), len(l))
	}
	// No byte is two seats', and between two of them there is none.
	end := uint64(1 << 20)
	for n, s := range seats {
		if s.Addr != end {
			t.Fatalf("%v, and %d seats more, stand not side by side: %d at %d", l[:min(len(l), 4)], len(l), n, s.Addr)
		}
		end += 8 * uint64(s.Size)
	}
	if want := 1<<20 + 8*uint64(data.Size(l)); end != want {
		t.Fatalf("the seats end at %d, want %d", end, want)
	}
	holdWithin(t, l, seats)
	holdFound(t, l, seats)
}

// holdWithin holds seats to stand within their parts, and the parts to have nothing else.
func holdWithin(t *testing.T, l []api.Piece, seats []api.Seat) {
	t.Helper()
	end := uint64(1 << 20)
	for hart := -1; hart <= 7; hart++ {
		from, to, err := data.Part(l, hart)
		if err != api.OK || from != end || to < from {
			t.Fatalf("hart %d's part reaches from %d to %d, %d; the one ahead to %d", hart, from, to, err, end)
		}
		end = to
		left := to - from
		for _, s := range seats {
			behind := s.Addr + 8*uint64(s.Size)
			switch {
			case s.Hart == hart && (s.Addr < from || to < behind):
				t.Fatalf("%v stands outside of hart %d's part, from %d to %d", s, hart, from, to)
			case s.Hart == hart:
				left -= 8 * uint64(s.Size)
			case s.Addr < to && from < behind:
				t.Fatalf("%v stands in hart %d's part, from %d to %d", s, hart, from, to)
			}
		}
		if left != 0 {
			t.Fatalf("hart %d's part has %d bytes that are no seat's", hart, left)
		}
	}
	if last := 1<<20 + 8*uint64(data.Size(l)); end != last {
		t.Fatalf("the parts end at %d, the seats at %d", end, last)
	}
}

// holdFound holds pieces to be found by Name and Hart, and each of their doubles by its address.
func holdFound(t *testing.T, l []api.Piece, seats []api.Seat) {
	t.Helper()
	for _, p := range l {
		s, err := data.Find(seats, p.Name, p.Hart)
		if err != api.OK || s.Piece != p {
			t.Fatalf("found of %v: %v, %d", p, s, err)
		}
		for n := range p.Size {
			addr := s.Addr + 8*uint64(n)
			if got, double, err := data.At(seats, addr); err != api.OK || got != s || double != n {
				t.Fatalf("at %d: %v, %d, %d, want %v, %d", addr, got, double, err, s, n)
			}
		}
	}
	for _, addr := range []uint64{1<<20 - 8, 1<<20 + 8*uint64(data.Size(l))} {
		if got, double, err := data.At(seats, addr); err != api.ErrNone || got != (api.Seat{}) || double != 0 {
			t.Fatalf("at %d: %v, %d, %d", addr, got, double, err)
		}
	}
}

func TestWhatFollows(t *testing.T) {
	holdFollows(t, nil)
	holdFollows(t, []api.Piece{piece("a", 2, 1), piece("b", 1, -1)})
	d := dice(3)
	for range 400 {
		holdFollows(t, d.pieces(1+d.below(40)))
	}
}

func TestWhatFollowsAtTheLimits(t *testing.T) {
	for _, hart := range []int{-1, 0, 7} {
		holdFollows(t, row(1024, 64, hart))
		holdFollows(t, []api.Piece{piece("a", 65536, hart)})
		holdFollows(t, []api.Piece{piece("a", 1, hart), piece("b", 65535, hart)})
	}
	var l []api.Piece
	for n := range 1024 {
		l = append(l, piece(name(n+1), 1+n%127, (n*n+n/5)%9-1))
	}
	holdFollows(t, l)
}
