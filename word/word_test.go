package word_test

import (
	"bytes"
	"math"
	"testing"

	"fencepost/word"
)

// The references below go bit by bit, so that they share no shift or mask with the package.

// bit tells whether x has bit i; bits beyond 63 are noughts.
func bit(x uint64, i int) bool {
	return i >= 0 && i < 64 && x>>uint(i)&1 == 1
}

// within tells whether bit i lies in the part of n bits from bit from on.
func within(i, from, n int) bool {
	return i >= from && i-from < n
}

// fromBits makes a number of the bits that has tells.
func fromBits(has func(i int) bool) uint64 {
	var x uint64
	for i := range 64 {
		if has(i) {
			x += 1 << uint(i)
		}
	}
	return x
}

func plainPart(x uint64, from, n int) uint64 {
	from = max(from, 0)
	return fromBits(func(i int) bool { return i < n && from < 64 && bit(x, from+i) })
}

func plainPut(x uint64, from, n int, v uint64) uint64 {
	from = max(from, 0)
	return fromBits(func(i int) bool {
		if within(i, from, n) {
			return i-from < 64 && bit(v, i-from)
		}
		return bit(x, i)
	})
}

// plainSign adds up bits, of which the highest one counts less; sums wrap round as signed numbers do.
func plainSign(x uint64, n int) int64 {
	n = min(max(n, 0), 64)
	var sum int64
	for i := range n {
		if !bit(x, i) {
			continue
		}
		worth := int64(1) << uint(i)
		if i == n-1 {
			worth = -worth
		}
		sum += worth
	}
	return sum
}

var words = []uint64{
	0, 1, 2, 5, 0xff, 0x7ff, 0x800, 0xfff, 0xabcd, 0x7fffffff, 0x80000000, 0xffffffff,
	0x0123456789abcdef, 0xfedcba9876543210, 0xaaaaaaaaaaaaaaaa, 0x5555555555555555,
	0x8000000000000001, 1<<63 - 1, 1 << 63, 1<<64 - 2, 1<<64 - 1,
}

// lengths and places name every good one, those just beyond, and the farthest.
var lengths = reach(64)
var places = reach(63)

func reach(high int) []int {
	l := []int{math.MinInt, math.MinInt32, -64, math.MaxInt32, math.MaxInt - 1, math.MaxInt}
	for i := -2; i <= high+2; i++ {
		l = append(l, i)
	}
	return l
}

// P1.1

func TestOnes(t *testing.T) {
	for _, n := range lengths {
		want := fromBits(func(i int) bool { return i < n })
		if got := word.Ones(n); got != want {
			t.Errorf("Ones(%d) = %#x, want %#x", n, got, want)
		}
	}
}

func TestOnesAtEdges(t *testing.T) {
	for _, c := range []struct {
		n    int
		want uint64
	}{
		{-1, 0}, {math.MinInt, 0}, {0, 0}, {1, 1}, {12, 0xfff}, {32, 0xffffffff},
		{63, 1<<63 - 1}, {64, 1<<64 - 1}, {65, 1<<64 - 1}, {math.MaxInt, 1<<64 - 1},
	} {
		if got := word.Ones(c.n); got != c.want {
			t.Errorf("Ones(%d) = %#x, want %#x", c.n, got, c.want)
		}
	}
}

func TestLow(t *testing.T) {
	for _, x := range words {
		for _, n := range lengths {
			if got, want := word.Low(x, n), plainPart(x, 0, n); got != want {
				t.Errorf("Low(%#x, %d) = %#x, want %#x", x, n, got, want)
			}
		}
	}
}

func TestPart(t *testing.T) {
	for _, x := range words {
		for _, from := range places {
			for _, n := range lengths {
				if got, want := word.Part(x, from, n), plainPart(x, from, n); got != want {
					t.Fatalf("Part(%#x, %d, %d) = %#x, want %#x", x, from, n, got, want)
				}
			}
		}
	}
}

func TestPartAtEdges(t *testing.T) {
	const x = 0xfedcba9876543210
	for _, c := range []struct {
		from, n int
		want    uint64
	}{
		{-1, 8, 0x10}, {math.MinInt, 8, 0x10}, {0, 0, 0}, {0, -1, 0}, {0, 64, x}, {0, 65, x},
		{-5, math.MaxInt, x}, {60, 8, 0xf}, {63, 1, 1}, {63, 64, 1}, {64, 1, 0}, {65, 64, 0},
		{math.MaxInt, math.MaxInt, 0},
	} {
		if got := word.Part(x, c.from, c.n); got != c.want {
			t.Errorf("Part(%#x, %d, %d) = %#x, want %#x", uint64(x), c.from, c.n, got, c.want)
		}
	}
}

func TestPut(t *testing.T) {
	for _, x := range words {
		for _, v := range words {
			for _, from := range places {
				for _, n := range []int{math.MinInt, -1, 0, 1, 7, 8, 31, 32, 33, 63, 64, 65, math.MaxInt} {
					if got, want := word.Put(x, from, n, v), plainPut(x, from, n, v); got != want {
						t.Fatalf("Put(%#x, %d, %d, %#x) = %#x, want %#x", x, from, n, v, got, want)
					}
				}
			}
		}
	}
}

func TestPutAtEdges(t *testing.T) {
	const x = 0xfedcba9876543210
	const all = 1<<64 - 1
	for _, c := range []struct {
		from, n int
		v, want uint64
	}{
		{-1, 8, 0x1ff, 0xfedcba98765432ff}, {math.MinInt, 4, 0, x}, {4, -1, all, x}, {4, 0, all, x},
		{0, 64, 7, 7}, {-9, 65, 7, 7}, {60, 8, 0x21, 0x1edcba9876543210}, {63, 64, 0, 0x7edcba9876543210},
		{63, 1, 1, x}, {64, 8, all, x}, {65, 64, 0, x}, {math.MaxInt, math.MaxInt, 0, x},
	} {
		if got := word.Put(x, c.from, c.n, c.v); got != c.want {
			t.Errorf("Put(%#x, %d, %d, %#x) = %#x, want %#x", uint64(x), c.from, c.n, c.v, got, c.want)
		}
	}
}

// P1.2

func TestSign(t *testing.T) {
	for _, x := range words {
		for _, n := range lengths {
			if got, want := word.Sign(x, n), plainSign(x, n); got != want {
				t.Errorf("Sign(%#x, %d) = %d, want %d", x, n, got, want)
			}
		}
	}
}

func TestSignAtEdges(t *testing.T) {
	for _, c := range []struct {
		x    uint64
		n    int
		want int64
	}{
		{1<<64 - 1, 0, 0}, {1<<64 - 1, -1, 0}, {1<<64 - 1, math.MinInt, 0}, {1, 1, -1}, {2, 1, 0},
		{0xff800, 12, -2048}, {1 << 62, 63, -1 << 62}, {1 << 63, 63, 0}, {1 << 63, 64, math.MinInt64},
		{1 << 63, 65, math.MinInt64}, {1<<63 - 1, math.MaxInt, math.MaxInt64},
	} {
		if got := word.Sign(c.x, c.n); got != c.want {
			t.Errorf("Sign(%#x, %d) = %d, want %d", c.x, c.n, got, c.want)
		}
	}
}

func TestFitsEndsWhereSignedNumbersEnd(t *testing.T) {
	for n := 1; n < 64; n++ {
		half := int64(1) << uint(n-1)
		for _, c := range []struct {
			v    int64
			want bool
		}{
			{-half - 1, false}, {-half, true}, {-1, true}, {0, true}, {half - 1, true}, {half, false},
			{math.MinInt64, false}, {math.MaxInt64, false},
		} {
			if got := word.Fits(c.v, n); got != c.want {
				t.Errorf("Fits(%d, %d) = %v, want %v", c.v, n, got, c.want)
			}
		}
	}
}

func TestFitsAtEdges(t *testing.T) {
	for _, n := range []int{0, -1, -64, math.MinInt} {
		for _, v := range []int64{0, 1, -1, math.MinInt64, math.MaxInt64} {
			if got := word.Fits(v, n); got != (v == 0) {
				t.Errorf("Fits(%d, %d) = %v", v, n, got)
			}
		}
	}
	for _, n := range []int{64, 65, math.MaxInt} {
		for _, v := range []int64{0, 1, -1, math.MinInt64, math.MaxInt64} {
			if !word.Fits(v, n) {
				t.Errorf("Fits(%d, %d) = false", v, n)
			}
		}
	}
}

func TestShort(t *testing.T) {
	for _, c := range []struct{ x, want uint64 }{
		{0, 0}, {1, 1}, {0x7fffffff, 0x7fffffff}, {0x80000000, 0xffffffff80000000},
		{0xffffffff, 1<<64 - 1}, {0xabcd00000001, 1}, {0x1_8000_0000, 0xffffffff80000000},
		{0xfedcba9876543210, 0x76543210}, {1 << 32, 0}, {1<<64 - 1, 1<<64 - 1},
	} {
		if got := word.Short(c.x); got != c.want {
			t.Errorf("Short(%#x) = %#x, want %#x", c.x, got, c.want)
		}
	}
}

// P1.3

func TestBytes(t *testing.T) {
	const x = 0xf8f7f6f5f4f3f2f1
	whole := []byte{0xf1, 0xf2, 0xf3, 0xf4, 0xf5, 0xf6, 0xf7, 0xf8}
	for n := 0; n <= 8; n++ {
		if got := word.Bytes(x, n); !bytes.Equal(got, whole[:n]) {
			t.Errorf("Bytes(%#x, %d) = %x, want %x", uint64(x), n, got, whole[:n])
		}
	}
	for _, n := range []int{-1, -8, math.MinInt} {
		if got := word.Bytes(x, n); len(got) != 0 {
			t.Errorf("Bytes(%#x, %d) = %x, want none", uint64(x), n, got)
		}
	}
	for _, n := range []int{9, 64, math.MaxInt} {
		if got := word.Bytes(x, n); !bytes.Equal(got, whole) {
			t.Errorf("Bytes(%#x, %d) = %x, want %x", uint64(x), n, got, whole)
		}
	}
}

func TestBytesAreNewEachTime(t *testing.T) {
	a := word.Bytes(0x0102, 2)
	b := word.Bytes(0x0102, 2)
	a[0] = 9
	_ = append(a, 9)
	if !bytes.Equal(b, []byte{2, 1}) || !bytes.Equal(word.Bytes(0x0102, 2), []byte{2, 1}) {
		t.Error("two answers share memory")
	}
}

func TestOf(t *testing.T) {
	for _, c := range []struct {
		b    []byte
		want uint64
	}{
		{nil, 0}, {[]byte{}, 0}, {[]byte{0x80}, 0x80}, {[]byte{1, 2}, 0x0201}, {[]byte{0, 0, 0xff}, 0xff0000},
		{[]byte{1, 2, 3, 4, 5, 6, 7}, 0x07060504030201},
		{[]byte{1, 2, 3, 4, 5, 6, 7, 0x88}, 0x8807060504030201},
		{[]byte{1, 2, 3, 4, 5, 6, 7, 8, 9}, 0x0807060504030201},
		{bytes.Repeat([]byte{0xff}, 100), 1<<64 - 1},
	} {
		kept := bytes.Clone(c.b)
		if got := word.Of(c.b); got != c.want {
			t.Errorf("Of(%x) = %#x, want %#x", kept, got, c.want)
		}
		if !bytes.Equal(c.b, kept) {
			t.Errorf("Of changed %x to %x", kept, c.b)
		}
	}
}

func TestOfLeavesSpareRoomAlone(t *testing.T) {
	whole := []byte{1, 2, 3, 4, 5, 6, 7, 8}
	if got := word.Of(whole[:2]); got != 0x0201 {
		t.Errorf("Of of two bytes with spare room = %#x", got)
	}
	if !bytes.Equal(whole, []byte{1, 2, 3, 4, 5, 6, 7, 8}) {
		t.Errorf("spare room became %x", whole)
	}
}

// P1.4

func TestWhatIsPutIsThere(t *testing.T) {
	for _, x := range words {
		for _, v := range words {
			for from := range 64 {
				for n := range 65 - from {
					y := word.Put(x, from, n, v)
					if word.Part(y, from, n) != word.Low(v, n) {
						t.Fatalf("Put(%#x, %d, %d, %#x) = %#x has other bits there", x, from, n, v, y)
					}
					same := word.Low(y, from) == word.Low(x, from) && word.Part(y, from+n, 64) == word.Part(x, from+n, 64)
					if !same {
						t.Fatalf("Put(%#x, %d, %d, %#x) = %#x changed bits elsewhere", x, from, n, v, y)
					}
					if word.Put(x, from, n, word.Part(x, from, n)) != x {
						t.Fatalf("a part of %#x put back at %d, %d makes another number", x, from, n)
					}
				}
			}
		}
	}
}

func TestWhatFitsIsTheSameSignedAgain(t *testing.T) {
	for _, x := range words {
		for _, n := range lengths {
			v := int64(x)
			if again := word.Sign(uint64(v), n); word.Fits(v, n) != (again == v) {
				t.Errorf("Fits(%d, %d) = %v, but signed again it is %d", v, n, word.Fits(v, n), again)
			}
			if s := word.Sign(x, n); !word.Fits(s, n) || word.Sign(word.Low(uint64(s), n), n) != s {
				t.Errorf("Sign(%#x, %d) = %d is no signed number of as many bits", x, n, s)
			}
		}
	}
}

func TestOfBytesIsWhatTheyHave(t *testing.T) {
	for _, x := range words {
		for n := -1; n <= 9; n++ {
			if got, want := word.Of(word.Bytes(x, n)), word.Low(x, 8*n); got != want {
				t.Errorf("Of(Bytes(%#x, %d)) = %#x, want %#x", x, n, got, want)
			}
		}
		b := word.Bytes(x, 8)
		for n := range 9 {
			if got := word.Bytes(word.Of(b[:n]), n); !bytes.Equal(got, b[:n]) {
				t.Errorf("Bytes(Of(%x)) = %x", b[:n], got)
			}
		}
	}
}

// The chapter's examples.

func TestExamples(t *testing.T) {
	if got := word.Part(0xabcd, 4, 8); got != 0xbc {
		t.Errorf("Part = %#x", got)
	}
	if got := word.Put(0, 4, 8, 0x1ff); got != 0xff0 {
		t.Errorf("Put = %#x", got)
	}
	if got := word.Sign(0xfff, 12); got != -1 {
		t.Errorf("Sign = %d", got)
	}
	if got := word.Sign(0x7ff, 12); got != 2047 {
		t.Errorf("Sign = %d", got)
	}
	if !word.Fits(-2048, 12) || word.Fits(2048, 12) {
		t.Error("Fits")
	}
}
