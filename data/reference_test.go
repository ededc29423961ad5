package data_test

import (
	"math"
	"math/big"
	"slices"
	"testing"

	"fencepost/api"
	"fencepost/data"
)

// What the tests hold the package against: the chapter told once more, by looking for each thing among all pieces and all seats.

// dice is a row of numbers without a rule to be seen in it, always the same.
type dice uint64

func (d *dice) below(n int) int {
	*d = *d*6364136223846793005 + 1442695040888963407
	return int(uint64(*d)>>33) % n
}

func pick[T any](d *dice, l ...T) T {
	return l[d.below(len(l))]
}

// pieces answers about so many pieces at random that may be.
func (d *dice) pieces(many int) []api.Piece {
	var l []api.Piece
	for n := range many {
		p := piece("n"+name(d.below(3*many)), pick(d, 1, 1, 2, 3, 1+d.below(40), 1+d.below(400)), pick(d, -1, -1, d.below(9)-1, d.below(3)))
		if n%5 == 4 {
			p.Name = right()[d.below(len(right()))]
		}
		if against(append(l, p)) == api.OK {
			l = append(l, p)
		}
	}
	return l
}

// spoil changes some of the pieces, or puts one among them; they may be as good as they were.
func (d *dice) spoil(l []api.Piece) []api.Piece {
	for range 1 + d.below(3) {
		at := d.below(len(l))
		p := &l[at]
		switch d.below(7) {
		case 0:
			p.Name = pick(d, "", l[d.below(len(l))].Name, "0123456789abcdef0123456789abcdef", "0123456789abcdef0123456789abcdefg")
		case 1:
			p.Size = pick(d, 0, -1, 1, 65536, 65537, 65530, 60000, 30000, math.MaxInt, math.MinInt)
		case 2:
			p.Hart = pick(d, -2, -1, 0, 7, 8, l[d.below(len(l))].Hart, math.MaxInt, math.MinInt)
		case 3, 4:
			l = slices.Insert(l, d.below(len(l)+1), l[d.below(len(l))])
		case 5:
			l = slices.Insert(l, at, piece(name(at), pick(d, 65536, 65536-d.below(200)), d.below(9)-1))
		case 6:
			l = slices.Insert(l, at, pick(d, wrong()...))
		}
	}
	return l
}

// against answers what is against pieces.
func against(l []api.Piece) api.Errno {
	doubles := new(big.Int)
	for at, p := range l {
		if p.Name == "" || len(p.Name) > 32 || p.Size < 1 || p.Size > 65536 || !slices.Contains([]int{-1, 0, 1, 2, 3, 4, 5, 6, 7}, p.Hart) {
			return api.ErrArg
		}
		for _, other := range l[:at] {
			if other.Name == p.Name && other.Hart == p.Hart {
				return api.ErrThere
			}
		}
		doubles.Add(doubles, big.NewInt(int64(p.Size)))
		if at+1 > 1024 || doubles.Cmp(big.NewInt(65536)) > 0 {
			return api.ErrFull
		}
	}
	return api.OK
}

// ahead tells whether the piece at one place is laid ahead of the one at another place.
func ahead(l []api.Piece, one, other int) bool {
	return l[one].Hart < l[other].Hart || l[one].Hart == l[other].Hart && one < other
}

// addr answers where the piece at a place stands: behind all that are laid ahead of it.
func addr(l []api.Piece, at int) uint64 {
	a := uint64(1048576)
	for other, p := range l {
		if ahead(l, other, at) {
			a += 8 * uint64(p.Size)
		}
	}
	return a
}

// seats answers the seats of pieces that may be, those of the lowest addresses first.
func seats(l []api.Piece) []api.Seat {
	all := make([]api.Seat, 0, len(l))
	for at, p := range l {
		all = append(all, api.Seat{Piece: p, Addr: addr(l, at)})
	}
	slices.SortFunc(all, func(a, b api.Seat) int { return int(int64(a.Addr - b.Addr)) })
	return all
}

// reach answers from where to where a part reaches: where a piece would stand that is put at its beginning, and at its end.
func reach(l []api.Piece, hart int) (uint64, uint64) {
	begun := slices.Insert(slices.Clone(l), 0, piece("a mark", 1, hart))
	ended := append(slices.Clone(l), piece("a mark", 1, hart))
	return addr(begun, 0), addr(ended, len(l))
}

// within answers which double of a seat an address stands in, of numbers without an end.
func within(s api.Seat, addr uint64) (int, bool) {
	at, from := new(big.Int).SetUint64(addr), new(big.Int).SetUint64(s.Addr)
	behind := new(big.Int).Mul(big.NewInt(8), big.NewInt(int64(s.Size)))
	behind.Add(behind, from)
	if at.Cmp(from) < 0 || at.Cmp(behind) >= 0 {
		return 0, false
	}
	n := new(big.Int).Sub(at, from)
	return int(n.Rsh(n, 3).Int64()), true
}

// stands answers the first seat that an address stands in.
func stands(l []api.Seat, addr uint64) (api.Seat, int, api.Errno) {
	for _, s := range l {
		if n, is := within(s, addr); is && addr&7 == 0 {
			return s, n, api.OK
		}
	}
	return api.Seat{}, 0, api.ErrNone
}

// holdPieces holds all that is answered of pieces.
func holdPieces(t *testing.T, l []api.Piece) api.Errno {
	t.Helper()
	err, size, want := against(l), 0, []api.Seat(nil)
	if err == api.OK {
		want = seats(l)
		for _, p := range l {
			size += p.Size
		}
	}
	got, errLay := data.Lay(l)
	if e, n := data.Check(l), data.Size(l); e != err || n != size || errLay != err || !slices.Equal(got, want) {
		t.Fatalf("of %v: %d, %d doubles, %v, %d; want %d, %d, %v", l, e, n, got, errLay, err, size, want)
	}
	for hart := -2; hart <= 8; hart++ {
		from, to, errPart := uint64(0), uint64(0), err
		if err == api.OK && (hart < -1 || hart > 7) {
			errPart = api.ErrArg
		}
		if errPart == api.OK {
			from, to = reach(l, hart)
		}
		if f, o, e := data.Part(l, hart); f != from || o != to || e != errPart {
			t.Fatalf("hart %d's part of %v: %d, %d, %d; want %d, %d, %d", hart, l, f, o, e, from, to, errPart)
		}
	}
	return err
}

func TestPiecesAtRandom(t *testing.T) {
	d, met := dice(5), map[api.Errno]int{}
	for range 3000 {
		l := d.pieces(1 + d.below(pick(&d, 3, 12, 30)))
		if holdPieces(t, l) != api.OK {
			t.Fatalf("%v may not be", l)
		}
		met[holdPieces(t, d.spoil(l))]++
	}
	for _, err := range []api.Errno{api.OK, api.ErrArg, api.ErrThere, api.ErrFull} {
		if met[err] < 200 {
			t.Errorf("%d lists of error %d", met[err], err)
		}
	}
}

func TestAllShortListsOfPieces(t *testing.T) {
	some := []api.Piece{piece("a", 1, -1), piece("b", 2, -1), piece("a", 3, 0), piece("b", 1, 0), piece("a", 2, 7), piece("a", 65530, 7), piece("", 1, 0), piece("c", 0, 1)}
	for a := range some {
		for b := range some {
			for c := range some {
				for e := range some {
					holdPieces(t, []api.Piece{some[a], some[b], some[c], some[e]})
				}
			}
		}
	}
}

// seats answers seats at random, that may be such as nobody lays.
func (d *dice) seats() []api.Seat {
	l := seats(d.pieces(1 + d.below(12)))
	for at := range l {
		s := &l[at]
		switch d.below(8) {
		case 0:
			s.Addr = pick[uint64](d, 0, 8, 1<<64-8, 1<<64-16, s.Addr-8, s.Addr+8, s.Addr+3, s.Addr-1, l[d.below(len(l))].Addr)
		case 1:
			s.Size = pick(d, 0, -1, 1, s.Size+1, 1<<61, 1<<61-1, math.MaxInt, math.MinInt)
		case 2:
			s.Name, s.Hart = pick(d, "", "n", l[d.below(len(l))].Name), pick(d, -9, 99, l[d.below(len(l))].Hart)
		case 3:
			other := d.below(len(l))
			l[at], l[other] = l[other], l[at]
		}
	}
	return l
}

func TestSeatsAtRandom(t *testing.T) {
	d, found := dice(6), 0
	for range 3000 {
		l := d.seats()
		for range 40 {
			s := l[d.below(len(l))]
			at := s.Addr + 8*uint64(d.below(abs(s.Size)%50+3)) - 8 + pick[uint64](&d, 0, 0, 0, 0, 0, 1, 4, -s.Addr%8)
			want, n, err := stands(l, at)
			if got, double, e := data.At(l, at); got != want || double != n || e != err {
				t.Fatalf("at %d of %v: %v, %d, %d; want %v, %d, %d", at, l, got, double, e, want, n, err)
			}
			if err == api.OK {
				found++
			}
			one, other := l[d.below(len(l))].Name, pick(&d, s.Hart, l[d.below(len(l))].Hart)
			which := slices.IndexFunc(l, func(s api.Seat) bool { return s.Piece == piece(one, s.Size, other) })
			if which < 0 {
				holdNotFound(t, l, one, other)
			} else {
				holdFind(t, l, one, other, l[which])
			}
		}
	}
	if found < 60000 || found > 110000 {
		t.Errorf("%d found", found)
	}
}

func abs(n int) int {
	return max(n, -(n + 1))
}
