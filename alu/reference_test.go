package alu_test

import (
	"iter"
	"math"
	"math/big"
	"slices"
	"strings"
	"testing"

	"fencepost/api"
	"fencepost/insn"
)

// What the tests hold the package against: numbers as long as they are, cut at the end.

// number answers x's n lowest bits as they count.
func number(x uint64, n int, signed bool) *big.Int {
	v := new(big.Int).SetUint64(x)
	all := new(big.Int).Lsh(big.NewInt(1), uint(n))
	v.Mod(v, all)
	if signed && v.Bit(n-1) == 1 {
		v.Sub(v, all)
	}
	return v
}

// back answers v cut to n bits, spread by its sign to 64.
func back(v *big.Int, n int) uint64 {
	all := new(big.Int).Lsh(big.NewInt(1), uint(n))
	v = new(big.Int).Mod(v, all)
	if v.Bit(n-1) == 1 {
		v.Sub(v, all)
	}
	return v.Mod(v, new(big.Int).Lsh(big.NewInt(1), 64)).Uint64()
}

// one answers 1 if it is so.
func one(is bool) *big.Int {
	if is {
		return big.NewInt(1)
	}
	return new(big.Int)
}

// bare are the names of ops with a number in them, and of their own ops.
func bare() map[string]string {
	return map[string]string{
		"addi": "add", "slti": "slt", "sltiu": "sltu", "xori": "xor", "ori": "or", "andi": "and",
		"slli": "sll", "srli": "srl", "srai": "sra", "addiw": "addw", "slliw": "sllw", "srliw": "srlw", "sraiw": "sraw",
	}
}

// own are the names of all ops of registers alone.
func own() []string {
	return strings.Fields("add sub sll slt sltu xor srl sra or and addw subw sllw srlw sraw " +
		"mul mulh mulhsu mulhu div divu rem remu mulw divw divuw remw remuw")
}

// plainDo answers what the op of a name answers, of registers alone.
func plainDo(name string, a, b uint64) uint64 {
	n := 64
	if s, is := strings.CutSuffix(name, "w"); is {
		name, n = s, 32
	}
	signedA, signedB := number(a, n, true), number(b, n, true)
	freeA, freeB := number(a, n, false), number(b, n, false)
	by := uint(b % uint64(n))
	v := new(big.Int)
	switch name {
	case "add":
		v.Add(signedA, signedB)
	case "sub":
		v.Sub(signedA, signedB)
	case "sll":
		v.Lsh(freeA, by)
	case "slt":
		v = one(signedA.Cmp(signedB) < 0)
	case "sltu":
		v = one(freeA.Cmp(freeB) < 0)
	case "xor":
		v.Xor(signedA, signedB)
	case "srl":
		v.Rsh(freeA, by)
	case "sra":
		v.Rsh(signedA, by)
	case "or":
		v.Or(signedA, signedB)
	case "and":
		v.And(signedA, signedB)
	case "mul":
		v.Mul(signedA, signedB)
	case "mulh":
		v.Rsh(v.Mul(signedA, signedB), 64)
	case "mulhsu":
		v.Rsh(v.Mul(signedA, freeB), 64)
	case "mulhu":
		v.Rsh(v.Mul(freeA, freeB), 64)
	case "div", "divu", "rem", "remu":
		v = plainDivided(name, signedA, signedB, freeA, freeB)
	default:
		panic("no op: " + name)
	}
	return back(v, n)
}

func plainDivided(name string, signedA, signedB, freeA, freeB *big.Int) *big.Int {
	v := new(big.Int)
	none := freeB.Sign() == 0
	switch {
	case none && strings.HasPrefix(name, "div"):
		return big.NewInt(-1)
	case none:
		return freeA
	case name == "div":
		return v.Quo(signedA, signedB)
	case name == "rem":
		return v.Rem(signedA, signedB)
	case name == "divu":
		return v.Quo(freeA, freeB)
	}
	return v.Rem(freeA, freeB)
}

// plainTakes answers whether the branch of a name is taken.
func plainTakes(name string, a, b uint64) bool {
	rest, free := strings.CutSuffix(strings.TrimPrefix(name, "b"), "u")
	order := number(a, 64, !free).Cmp(number(b, 64, !free))
	switch rest {
	case "eq":
		return order == 0
	case "ne":
		return order != 0
	case "lt":
		return order < 0
	case "ge":
		return order >= 0
	}
	panic("no branch: " + name)
}

// plainAmo answers what the amo of a name stores.
func plainAmo(name string, was, b uint64) uint64 {
	name, short := strings.CutSuffix(name, ".w")
	n := 64
	if short {
		n = 32
	}
	what, free := strings.CutSuffix(strings.TrimSuffix(strings.TrimPrefix(name, "amo"), ".d"), "u")
	v, w := number(was, n, !free), number(b, n, !free)
	out := new(big.Int)
	switch what {
	case "swap":
		out = w
	case "add":
		out.Add(v, w)
	case "xor":
		out.Xor(v, w)
	case "and":
		out.And(v, w)
	case "or":
		out.Or(v, w)
	case "min", "max":
		out = v
		if (w.Cmp(v) < 0) == (what == "min") {
			out = w
		}
	default:
		panic("no amo: " + name)
	}
	return back(out, n)
}

// numbers are those at the edges, and some here and there.
func numbers() []uint64 {
	l := []uint64{
		0, 1, 2, 3, 4, 5, 7, 10, 31, 32, 33, 62, 63, 64, 65, 95, 96, 97, 127, 128, 1 << 12, 1<<20 - 1, 1 << 20,
		math.MaxUint64, math.MaxUint64 - 1, math.MaxUint64 - 2, math.MaxUint64 - 6, math.MaxUint64 - 31, math.MaxUint64 - 63,
		math.MaxInt64, math.MaxInt64 - 1, 1 << 63, 1<<63 + 1, 1 << 62, 3 << 62,
		math.MaxInt32, math.MaxInt32 - 1, 1 << 31, 1<<31 + 1, math.MaxUint32, math.MaxUint32 - 1, 1 << 32, 1<<32 + 1, 1<<33 - 1,
		// the least and the greatest of 32 bits, signed, spread as they should be; and others, whose upper bits are not their sign
		0xffffffff80000000, 0xffffffff80000001, 0xffffffff7fffffff, 0x1234567880000000, 0xdeadbeef7fffffff, 0x7fffffff80000000,
		0xffffffff00000000, 0xffffffff00000001, 0x00000001ffffffff, 0x80000000ffffffff, 0x8000000000000007, 0x7fffffff00000000, 0xabcdef0100000020,
		0x5555555555555555, 0xaaaaaaaaaaaaaaaa, 0x0123456789abcdef, 0xfedcba9876543210,
	}
	x := uint64(1)
	for range 24 {
		x = x*6364136223846793005 + 1442695040888963407
		l = append(l, x, x>>32, x>>(x>>58))
	}
	return l
}

// pairs are all pairs of them.
func pairs() iter.Seq2[uint64, uint64] {
	l := numbers()
	return func(yield func(a, b uint64) bool) {
		for _, a := range l {
			for _, b := range l {
				if !yield(a, b) {
					return
				}
			}
		}
	}
}

// holdPairs holds what is asked of the ops of these names against what is so, of all these pairs.
func holdPairs[T comparable](t *testing.T, names []string, pairs iter.Seq2[uint64, uint64], ask func(op int, a, b uint64) (T, api.Errno), plain func(name string, a, b uint64) T) {
	t.Helper()
	for name, op := range opsOf(t, names) {
		for a, b := range pairs {
			want := plain(name, a, b)
			if got, err := ask(op, a, b); got != want || err != api.OK {
				t.Fatalf("%s %#x, %#x = %v, %d, want %v", name, a, b, got, err, want)
			}
		}
	}
}

// holdShort tells whether the ops of these names that are short look at the lowest 32 bits alone, and answer such, spread.
func holdShort(t *testing.T, names []string, ask func(op int, a, b uint64) (uint64, api.Errno)) {
	t.Helper()
	const upper = math.MaxUint32 << 32
	for name, op := range opsOf(t, names) {
		if !strings.HasSuffix(name, "w") {
			continue
		}
		for a, b := range pairs() {
			got, _ := ask(op, a, b)
			if got != uint64(int64(int32(got))) {
				t.Fatalf("%s %#x, %#x = %#x: not one of 32 bits, signed", name, a, b, got)
			}
			for _, other := range [][2]uint64{{a &^ upper, b &^ upper}, {a | upper, b | upper}, {a | upper, b &^ upper}, {a &^ upper, b | upper}} {
				if again, _ := ask(op, other[0], other[1]); again != got {
					t.Fatalf("%s %#x, %#x = %#x; %#x of %#x", name, a, b, got, again, other)
				}
			}
		}
	}
}

// holdNone tells whether all numbers but the ops of these names are refused.
func holdNone[T comparable](t *testing.T, names []string, ask func(op int, a, b uint64) (T, api.Errno)) {
	t.Helper()
	wrong := noOps()
	for op := 1; op <= api.RvAmomaxuD; op++ {
		if !slices.Contains(names, insn.Name(op)) {
			wrong = append(wrong, op)
		} else if _, err := ask(op, 1, 2); err != api.OK {
			t.Errorf("%s is refused: %d", insn.Name(op), err)
		}
	}
	var nothing T
	for _, op := range wrong {
		for _, x := range []uint64{0, 1, math.MaxUint64} {
			if got, err := ask(op, x, 1); got != nothing || err != api.ErrArg {
				t.Errorf("op %d, %#x, 1 = %v, %d", op, x, got, err)
			}
		}
	}
}

// noOps are numbers that are no op's.
func noOps() []int {
	l := []int{0, 88, 89, 127, 128, 256, 1 << 16, 1 << 32, math.MinInt, math.MinInt + 1, math.MaxInt, math.MaxInt - 1, -1 << 32}
	for x := 1; x <= 100; x++ {
		l = append(l, -x, 87+x, 1<<32+x, 1<<8+x, math.MinInt+x)
	}
	return l
}

// opsOf answers the ops of names, which must be.
func opsOf(t *testing.T, names []string) map[string]int {
	t.Helper()
	m := map[string]int{}
	for _, name := range names {
		op := insn.Named(name)
		if op == 0 {
			t.Fatalf("%q is no op", name)
		}
		m[name] = op
	}
	return m
}
