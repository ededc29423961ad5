package alu_test

import (
	"maps"
	"math"
	"slices"
	"strings"
	"testing"

	"fencepost/alu"
	"fencepost/api"
	"fencepost/insn"
)

// neg answers the number that is x below 0.
func neg(x uint64) uint64 {
	return -x
}

// ones is the number of 64 ones, least the least signed one, greatest the greatest; least32 and greatest32 likewise, of 32 bits.
const (
	ones       = math.MaxUint64
	least      = uint64(1) << 63
	greatest   = uint64(math.MaxInt64)
	least32    = uint64(0xffffffff80000000)
	greatest32 = uint64(math.MaxInt32)
)

// told is what an op answers, worked out by hand.
type told struct {
	name       string
	a, b, want uint64
}

func holdDo(t *testing.T, l []told) {
	t.Helper()
	for _, c := range l {
		if got, err := alu.Do(insn.Named(c.name), c.a, c.b); got != c.want || err != api.OK {
			t.Errorf("%s %#x, %#x = %#x, %d, want %#x", c.name, c.a, c.b, got, err, c.want)
		}
	}
}

// P4.1

func TestSums(t *testing.T) {
	holdDo(t, []told{
		{"add", 2, 3, 5}, {"add", ones, 1, 0}, {"add", greatest, 1, least}, {"add", least, ones, greatest}, {"add", 0, 0, 0}, {"add", math.MaxUint32, 1, 1 << 32},
		{"sub", 5, 3, 2}, {"sub", 3, 5, neg(2)}, {"sub", 0, 1, ones}, {"sub", least, 1, greatest}, {"sub", 7, 0, 7}, {"sub", 1, least, 1<<63 + 1},
		{"addw", 2, 3, 5}, {"addw", greatest32, 1, least32}, {"addw", math.MaxUint32, 1, 0}, {"addw", least32, ones, greatest32},
		{"addw", 1 << 32, 1, 1}, {"addw", 0x1234567880000000, 0, least32}, {"addw", 0xdeadbeef7fffffff, 0xffffffff00000000, greatest32},
		{"subw", 5, 7, neg(2)}, {"subw", 0, 1, ones}, {"subw", 1 << 31, 1, greatest32}, {"subw", 0, 1 << 31, least32}, {"subw", 0xabcd00000005, 3, 2},
		{"subw", 0, 1 << 32, 0},
	})
}

func TestBitwise(t *testing.T) {
	holdDo(t, []told{
		{"xor", 0b1100, 0b1010, 0b0110}, {"xor", ones, 0, ones}, {"xor", ones, ones, 0}, {"xor", least, 1, least + 1},
		{"or", 0b1100, 0b1010, 0b1110}, {"or", 0, 0, 0}, {"or", least, greatest, ones},
		{"and", 0b1100, 0b1010, 0b1000}, {"and", ones, least, least}, {"and", least, greatest, 0},
	})
}

func TestBelow(t *testing.T) {
	holdDo(t, []told{
		{"slt", 1, 2, 1}, {"slt", 2, 1, 0}, {"slt", 2, 2, 0}, {"slt", ones, 0, 1}, {"slt", 0, ones, 0}, {"slt", least, greatest, 1}, {"slt", greatest, least, 0}, {"slt", least, least, 0},
		{"sltu", 1, 2, 1}, {"sltu", 2, 1, 0}, {"sltu", 2, 2, 0}, {"sltu", ones, 0, 0}, {"sltu", 0, ones, 1}, {"sltu", least, greatest, 0}, {"sltu", greatest, least, 1}, {"sltu", 0, 0, 0},
		{"slt", 1 << 31, 1 << 32, 1}, {"sltu", 1<<32 + 1, 2, 0},
	})
}

func TestShifts(t *testing.T) {
	const x = 0x89abcdef01234567
	holdDo(t, []told{
		{"sll", x, 0, x}, {"sll", x, 4, 0x9abcdef012345670}, {"sll", x, 31, 0x8091a2b380000000}, {"sll", x, 32, 0x0123456700000000}, {"sll", x, 63, least},
		{"sll", x, 64, x}, {"sll", x, 68, 0x9abcdef012345670}, {"sll", x, ones, least}, {"sll", x, 1 << 63, x}, {"sll", x, 1<<32 + 32, 0x0123456700000000},
		{"srl", x, 0, x}, {"srl", x, 4, 0x089abcdef0123456}, {"srl", x, 31, 0x113579bde}, {"srl", x, 32, 0x89abcdef}, {"srl", x, 63, 1},
		{"srl", x, 64, x}, {"srl", x, 68, 0x089abcdef0123456}, {"srl", x, ones, 1}, {"srl", x, 1 << 6, x},
		{"sra", x, 0, x}, {"sra", x, 4, 0xf89abcdef0123456}, {"sra", x, 31, 0xffffffff13579bde}, {"sra", x, 32, 0xffffffff89abcdef}, {"sra", x, 63, ones},
		{"sra", x, 64, x}, {"sra", x, 68, 0xf89abcdef0123456}, {"sra", x, ones, ones}, {"sra", greatest, 63, 0}, {"sra", least, 1, 3 << 62}, {"sra", greatest, 32, greatest32},
	})
}

func TestShortShifts(t *testing.T) {
	const x = 0x7654321089abcdef
	holdDo(t, []told{
		{"sllw", x, 0, 0xffffffff89abcdef}, {"sllw", x, 4, 0xffffffff9abcdef0}, {"sllw", x, 8, 0xffffffffabcdef00}, {"sllw", x, 31, least32}, {"sllw", 1, 31, least32}, {"sllw", 2, 31, 0},
		{"sllw", x, 32, 0xffffffff89abcdef}, {"sllw", x, 36, 0xffffffff9abcdef0}, {"sllw", x, 63, least32}, {"sllw", x, 64, 0xffffffff89abcdef}, {"sllw", x, ones, least32}, {"sllw", x, 20, 0xffffffffdef00000}, {"sllw", 0x1_00000007, 1, 14},
		{"srlw", x, 0, 0xffffffff89abcdef}, {"srlw", x, 4, 0x089abcde}, {"srlw", x, 31, 1}, {"srlw", x, 32, 0xffffffff89abcdef}, {"srlw", x, 36, 0x089abcde}, {"srlw", x, 63, 1}, {"srlw", x, 64, 0xffffffff89abcdef}, {"srlw", ones, 1, greatest32},
		{"sraw", x, 0, 0xffffffff89abcdef}, {"sraw", x, 4, 0xfffffffff89abcde}, {"sraw", x, 31, ones}, {"sraw", x, 32, 0xffffffff89abcdef}, {"sraw", x, 36, 0xfffffffff89abcde}, {"sraw", x, 63, ones}, {"sraw", x, 64, 0xffffffff89abcdef},
		{"sraw", 0xffffffff7fffffff, 4, 0x07ffffff}, {"sraw", 0xffffffff7fffffff, 31, 0}, {"srlw", 0xffffffff7fffffff, 4, 0x07ffffff},
	})
}

func TestProducts(t *testing.T) {
	holdDo(t, []told{
		{"mul", 6, 7, 42}, {"mul", ones, ones, 1}, {"mul", neg(3), 5, neg(15)}, {"mul", least, 2, 0}, {"mul", least, ones, least}, {"mul", 1 << 32, 1 << 32, 0}, {"mul", 0, ones, 0}, {"mul", greatest, greatest, 1},
		{"mulw", 6, 7, 42}, {"mulw", 1 << 16, 1 << 15, least32}, {"mulw", 1 << 16, 1 << 16, 0}, {"mulw", 0xabcd00000003, 0x123400000005, 15}, {"mulw", least32, ones, least32}, {"mulw", ones, math.MaxUint32, 1}, {"mulw", greatest32, 2, neg(2)},
		{"mulh", 6, 7, 0}, {"mulh", ones, ones, 0}, {"mulh", ones, 1, ones}, {"mulh", neg(3), 5, ones}, {"mulh", least, least, 1 << 62}, {"mulh", least, greatest, 0xc000000000000000}, {"mulh", greatest, least, 0xc000000000000000},
		{"mulh", greatest, greatest, 0x3fffffffffffffff}, {"mulh", least, ones, 0}, {"mulh", least, 1, ones}, {"mulh", least, 0, 0}, {"mulh", 1 << 32, 1 << 32, 1}, {"mulh", 0, ones, 0},
		{"mulhu", 6, 7, 0}, {"mulhu", ones, ones, neg(2)}, {"mulhu", ones, 1, 0}, {"mulhu", least, least, 1 << 62}, {"mulhu", least, greatest, 0x3fffffffffffffff}, {"mulhu", greatest, greatest, 0x3fffffffffffffff}, {"mulhu", least, ones, greatest}, {"mulhu", ones, 2, 1}, {"mulhu", 0, ones, 0},
		{"mulhsu", 6, 7, 0}, {"mulhsu", ones, ones, ones}, {"mulhsu", ones, 1, ones}, {"mulhsu", 1, ones, 0}, {"mulhsu", least, least, 0xc000000000000000}, {"mulhsu", least, ones, least}, {"mulhsu", greatest, ones, greatest - 1},
		{"mulhsu", greatest, least, 0x3fffffffffffffff}, {"mulhsu", least, greatest, 0xc000000000000000}, {"mulhsu", ones, 0, 0}, {"mulhsu", neg(2), least, ones}, {"mulhsu", 2, least, 1},
	})
}

func TestDivision(t *testing.T) {
	holdDo(t, []told{
		{"div", 7, 2, 3}, {"div", neg(7), 2, neg(3)}, {"div", 7, neg(2), neg(3)}, {"div", neg(7), neg(2), 3}, {"div", 0, 5, 0}, {"div", 5, 7, 0}, {"div", neg(5), 7, 0}, {"div", greatest, ones, least + 1}, {"div", least, 1, least},
		{"rem", 7, 2, 1}, {"rem", neg(7), 2, ones}, {"rem", 7, neg(2), 1}, {"rem", neg(7), neg(2), ones}, {"rem", 0, 5, 0}, {"rem", 5, 7, 5}, {"rem", neg(5), 7, neg(5)}, {"rem", least, greatest, ones}, {"rem", least, 1, 0},
		{"divu", 7, 2, 3}, {"divu", ones, 2, greatest}, {"divu", ones, ones, 1}, {"divu", least, ones, 0}, {"divu", 5, neg(2), 0}, {"divu", neg(7), 2, greatest - 3},
		{"remu", 7, 2, 1}, {"remu", ones, 2, 1}, {"remu", ones, ones, 0}, {"remu", least, ones, least}, {"remu", 5, neg(2), 5}, {"remu", ones, 10, 5},
		{"divw", 7, 2, 3}, {"divw", neg(7), 2, neg(3)}, {"divw", 7, neg(2), neg(3)}, {"divw", neg(7), neg(2), 3}, {"divw", 0xabcd00000007, 0x123400000002, 3}, {"divw", 0x1234fffffff9, 0xabcd00000002, neg(3)}, {"divw", 0x80000000, 2, 0xffffffffc0000000},
		{"remw", 7, 2, 1}, {"remw", neg(7), 2, ones}, {"remw", 7, neg(2), 1}, {"remw", neg(7), neg(2), ones}, {"remw", 0xabcd00000007, 0x123400000002, 1}, {"remw", 0x1234fffffff9, 0xabcd00000002, ones},
		{"divuw", 7, 2, 3}, {"divuw", ones, 2, greatest32}, {"divuw", ones, 1, ones}, {"divuw", least32, 1, least32}, {"divuw", 0xabcd00000007, 0x123400000002, 3}, {"divuw", 7, 0x1234fffffffe, 0}, {"divuw", 0x80000000, math.MaxUint32, 0},
		{"remuw", 7, 2, 1}, {"remuw", ones, 10, 5}, {"remuw", 0x80000000, ones, least32}, {"remuw", 0xabcd00000007, 0x123400000002, 1}, {"remuw", math.MaxUint32 - 1, math.MaxUint32, neg(2)}, {"remuw", ones, 1 << 31, greatest32},
	})
}

func TestDivisionByNone(t *testing.T) {
	for _, a := range []uint64{0, 1, 5, neg(5), ones, least, greatest} {
		holdDo(t, []told{{"div", a, 0, ones}, {"divu", a, 0, ones}, {"rem", a, 0, a}, {"remu", a, 0, a}})
	}
	// Of short ones the upper bits do not count: not those of a divisor that has nothing else, either.
	for _, b := range []uint64{0, 1 << 32, 0xffffffff00000000} {
		for a, rest := range map[uint64]uint64{0: 0, 5: 5, neg(5): neg(5), 0x80000000: least32, 0xabcd7fffffff: greatest32, 0xffffffff00000005: 5, 0x00000001fffffffb: neg(5)} {
			holdDo(t, []told{{"divw", a, b, ones}, {"divuw", a, b, ones}, {"remw", a, b, rest}, {"remuw", a, b, rest}})
		}
	}
}

func TestLeastByMinusOne(t *testing.T) {
	holdDo(t, []told{{"div", least, ones, least}, {"rem", least, ones, 0}})
	for _, a := range []uint64{least32, 0x80000000, 0x1234567880000000} {
		for _, b := range []uint64{ones, math.MaxUint32, 0x7fffffffffffffff} {
			holdDo(t, []told{{"divw", a, b, least32}, {"remw", a, b, 0}})
		}
	}
	// Of 64 bits that number is none of an edge.
	holdDo(t, []told{{"div", least32, ones, 0x80000000}, {"rem", least32, ones, 0}})
}

func TestLui(t *testing.T) {
	for _, a := range []uint64{0, 1, ones, 0x123456789} {
		holdDo(t, []told{
			{"lui", a, 0, 0}, {"lui", a, 1, 4096}, {"lui", a, 0x12345, 0x12345000}, {"lui", a, 0x7ffff, 0x7ffff000}, {"lui", a, ones, 0xfffffffffffff000}, {"lui", a, neg(0x80000), least32}, {"lui", a, neg(0x7ffff), 0xffffffff80001000},
			// more than an Imm may have
			{"lui", a, 0x80000, least32}, {"lui", a, 0xfffff, 0xfffffffffffff000}, {"lui", a, 0x100000, 0}, {"lui", a, 0x100001, 0x1000}, {"lui", a, 0x17ffff, 0x7ffff000}, {"lui", a, neg(0x80001), 0x7ffff000}, {"lui", a, least, 0}, {"lui", a, greatest, 0xfffffffffffff000},
		})
	}
}

func TestNumbersInOps(t *testing.T) {
	holdDo(t, []told{
		{"addi", 5, neg(3), 2}, {"addi", 0, neg(2048), neg(2048)}, {"addi", ones, 2047, 2046}, {"slti", neg(1), 0, 1}, {"slti", 5, neg(1), 0}, {"sltiu", 5, neg(1), 1}, {"sltiu", 0, 1, 1}, {"sltiu", ones, neg(1), 0},
		{"xori", 5, neg(1), neg(6)}, {"ori", 5, neg(8), neg(3)}, {"andi", 0xffff, neg(16), 0xfff0}, {"slli", 1, 63, least}, {"srli", least, 63, 1}, {"srai", least, 63, ones},
		{"addiw", greatest32, 1, least32}, {"addiw", 0x1ffffffff, 0, ones}, {"slliw", 1, 31, least32}, {"srliw", ones, 31, 1}, {"sraiw", 0x80000000, 31, ones},
		// more than an Imm may have
		{"addi", 1, 4096, 4097}, {"addi", 1, greatest, least}, {"andi", ones, 1 << 40, 1 << 40}, {"slli", 1, 64, 1}, {"slliw", 1, 32, 1}, {"sltiu", 1 << 20, 1 << 21, 1}, {"addiw", 0, 1 << 31, least32},
	})
}

func TestNumbersInOpsAreTheirOwnOps(t *testing.T) {
	with := bare()
	holdPairs(t, slices.Collect(maps.Keys(with)), pairs(), alu.Do, func(name string, a, b uint64) uint64 {
		want, _ := alu.Do(insn.Named(with[name]), a, b)
		return want
	})
	holdPairs(t, slices.Collect(maps.Keys(with)), pairs(), alu.Do, func(name string, a, b uint64) uint64 {
		return plainDo(with[name], a, b)
	})
}

func TestDoOfAllPairs(t *testing.T) {
	holdPairs(t, own(), pairs(), alu.Do, plainDo)
}

func TestShiftsByAll(t *testing.T) {
	holdPairs(t, strings.Fields("sll srl sra sllw srlw sraw"), func(yield func(a, b uint64) bool) {
		for _, a := range numbers() {
			for b := range uint64(200) {
				if !yield(a, b) {
					return
				}
			}
		}
	}, alu.Do, plainDo)
}

func TestShortOpsLookAtTheLowHalf(t *testing.T) {
	holdShort(t, own(), alu.Do)
}

func TestPlain(t *testing.T) {
	alone, with := own(), bare()
	for op := 1; op <= api.RvAmomaxuD; op++ {
		name := insn.Name(op)
		want := insn.Named(with[name])
		if slices.Contains(alone, name) {
			want = op
		}
		if got := alu.Plain(op); got != want {
			t.Errorf("Plain of %s = %d, want %d", name, got, want)
		}
	}
	for _, op := range noOps() {
		if got := alu.Plain(op); got != 0 {
			t.Errorf("Plain(%d) = %d", op, got)
		}
	}
	if len(alone) != api.RvRemuw-api.RvAdd+1 || len(with) != api.RvSraiw-api.RvAddi+1 {
		t.Errorf("the test's lists have %d and %d ops", len(alone), len(with))
	}
}

func TestDoOfNoOp(t *testing.T) {
	takes := slices.AppendSeq(append(own(), "lui"), maps.Keys(bare()))
	holdNone(t, takes, alu.Do)
}

// P4.3

func TestQuotientAndRestAreTheDividend(t *testing.T) {
	for _, c := range []struct {
		div, rem string
		bits     int
		signed   bool
	}{
		{"div", "rem", 64, true}, {"divu", "remu", 64, false}, {"divw", "remw", 32, true}, {"divuw", "remuw", 32, false},
	} {
		for a, b := range pairs() {
			q, _ := alu.Do(insn.Named(c.div), a, b)
			r, _ := alu.Do(insn.Named(c.rem), a, b)
			dividend, divisor, rest := number(a, c.bits, c.signed), number(b, c.bits, c.signed), number(r, c.bits, c.signed)
			sum := number(q, c.bits, c.signed)
			sum.Mul(sum, divisor).Add(sum, rest)
			if back(sum, c.bits) != back(dividend, c.bits) {
				t.Fatalf("%s, %s %#x, %#x = %#x, %#x: not the dividend", c.div, c.rem, a, b, q, r)
			}
			if divisor.Sign() != 0 && rest.CmpAbs(divisor) >= 0 {
				t.Fatalf("%s %#x, %#x = %#x: not smaller", c.rem, a, b, r)
			}
			if rest.Sign() != 0 && rest.Sign() != dividend.Sign() {
				t.Fatalf("%s %#x, %#x = %#x: of another sign", c.rem, a, b, r)
			}
		}
	}
}

func TestHalvesAreTheWholeProduct(t *testing.T) {
	for _, c := range []struct {
		high             string
		signedA, signedB bool
	}{
		{"mulh", true, true}, {"mulhsu", true, false}, {"mulhu", false, false},
	} {
		for a, b := range pairs() {
			high, _ := alu.Do(insn.Named(c.high), a, b)
			low, _ := alu.Do(api.RvMul, a, b)
			want := number(a, 64, c.signedA)
			want.Mul(want, number(b, 64, c.signedB))
			got := number(high, 64, c.signedA)
			got.Lsh(got, 64).Add(got, number(low, 64, false))
			if got.Cmp(want) != 0 {
				t.Fatalf("%s, mul %#x, %#x = %#x, %#x, want %s", c.high, a, b, high, low, want)
			}
		}
	}
}

// T6: what was asked ahead does not matter.

func TestAnswersAreNotOfWhatCameAhead(t *testing.T) {
	for range 3 {
		alu.Do(0, 1, 2)
		alu.Do(api.RvDiv, 1, 0)
		alu.Amo(api.RvAmoswapW, 3, 4)
		alu.Takes(api.RvBeq, 0, 0)
		alu.Plain(-1)
		holdDo(t, []told{{"sub", 7, 9, neg(2)}, {"divu", 9, 0, ones}})
	}
}

// The chapter's examples.

func TestExamples(t *testing.T) {
	holdDo(t, []told{
		{"div", neg(7), 2, neg(3)}, {"rem", neg(7), 2, neg(1)},
		{"divu", 5, 0, ones}, {"remu", 5, 0, 5},
		{"sraw", 0x80000000, 4, 0xfffffffff8000000},
		{"mulhu", 1 << 63, 4, 2},
	})
}
