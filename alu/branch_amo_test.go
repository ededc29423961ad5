package alu_test

import (
	"math"
	"slices"
	"strings"
	"testing"

	"fencepost/alu"
	"fencepost/api"
	"fencepost/insn"
)

// branches and amos are the names of all of them.
func branches() []string {
	return strings.Fields("beq bne blt bge bltu bgeu")
}

func amos() []string {
	var l []string
	for what := range strings.FieldsSeq("swap add xor and or min max minu maxu") {
		l = append(l, "amo"+what+".w", "amo"+what+".d")
	}
	return l
}

// P4.2

func TestBranches(t *testing.T) {
	for _, c := range []struct {
		a, b  uint64
		taken string
	}{
		{0, 0, "beq bge bgeu"}, {7, 7, "beq bge bgeu"}, {ones, ones, "beq bge bgeu"}, {least, least, "beq bge bgeu"}, {greatest, greatest, "beq bge bgeu"},
		{1, 2, "bne blt bltu"}, {0, 1, "bne blt bltu"}, {2, 1, "bne bge bgeu"}, {1, 0, "bne bge bgeu"},
		{ones, 0, "bne blt bgeu"}, {0, ones, "bne bge bltu"}, {least, greatest, "bne blt bgeu"}, {greatest, least, "bne bge bltu"},
		{neg(2), ones, "bne blt bltu"}, {ones, neg(2), "bne bge bgeu"}, {least, ones, "bne blt bltu"}, {least, 0, "bne blt bgeu"}, {greatest, 0, "bne bge bgeu"},
		// alike in 32 bits, or turned there
		{1 << 32, 0, "bne bge bgeu"}, {0, 1 << 32, "bne blt bltu"}, {1 << 31, 1, "bne bge bgeu"}, {math.MaxUint32, 0, "bne bge bgeu"}, {1<<32 + 1, 2, "bne bge bgeu"}, {least + 5, 5, "bne blt bgeu"},
	} {
		for name, op := range opsOf(t, branches()) {
			want := slices.Contains(strings.Fields(c.taken), name)
			if got, err := alu.Takes(op, c.a, c.b); got != want || err != api.OK {
				t.Errorf("%s %#x, %#x = %t, %d, want %t", name, c.a, c.b, got, err, want)
			}
		}
	}
}

func TestTakesOfAllPairs(t *testing.T) {
	holdPairs(t, branches(), pairs(), alu.Takes, plainTakes)
}

func TestTakesOfNoBranch(t *testing.T) {
	holdNone(t, branches(), alu.Takes)
}

func TestAmos(t *testing.T) {
	for _, c := range []told{
		{"amoswap.d", 1, 2, 2}, {"amoswap.d", ones, least, least}, {"amoswap.d", 5, 0x1234567880000000, 0x1234567880000000},
		{"amoadd.d", 2, 3, 5}, {"amoadd.d", ones, 1, 0}, {"amoadd.d", greatest, 1, least}, {"amoadd.d", math.MaxUint32, 1, 1 << 32},
		{"amoxor.d", 0b1100, 0b1010, 0b0110}, {"amoxor.d", ones, least, greatest},
		{"amoand.d", 0b1100, 0b1010, 0b1000}, {"amoand.d", ones, least, least},
		{"amoor.d", 0b1100, 0b1010, 0b1110}, {"amoor.d", greatest, least, ones},
		{"amomin.d", 1, 2, 1}, {"amomin.d", 2, 1, 1}, {"amomin.d", ones, 0, ones}, {"amomin.d", greatest, least, least}, {"amomin.d", 3, 3, 3}, {"amomin.d", 1 << 31, 1, 1},
		{"amomax.d", 1, 2, 2}, {"amomax.d", 2, 1, 2}, {"amomax.d", ones, 0, 0}, {"amomax.d", greatest, least, greatest}, {"amomax.d", 3, 3, 3}, {"amomax.d", 1 << 31, 1, 1 << 31},
		{"amominu.d", 1, 2, 1}, {"amominu.d", 2, 1, 1}, {"amominu.d", ones, 0, 0}, {"amominu.d", greatest, least, greatest}, {"amominu.d", 3, 3, 3}, {"amominu.d", 1 << 32, 7, 7},
		{"amomaxu.d", 1, 2, 2}, {"amomaxu.d", 2, 1, 2}, {"amomaxu.d", ones, 0, ones}, {"amomaxu.d", greatest, least, least}, {"amomaxu.d", 3, 3, 3}, {"amomaxu.d", 1 << 32, 7, 1 << 32},

		{"amoswap.w", 1, 2, 2}, {"amoswap.w", 0, 0x80000000, least32}, {"amoswap.w", ones, 0xabcd00000005, 5}, {"amoswap.w", ones, 0xffffffff7fffffff, greatest32},
		{"amoadd.w", 2, 3, 5}, {"amoadd.w", greatest32, 1, least32}, {"amoadd.w", math.MaxUint32, 1, 0}, {"amoadd.w", 0xabcd00000002, 0x123400000003, 5}, {"amoadd.w", least32, ones, greatest32},
		{"amoxor.w", 0b1100, 0b1010, 0b0110}, {"amoxor.w", 0xffffffff00000000, 0x80000000, least32}, {"amoxor.w", 0xabcdffffffff, 0x1234ffffffff, 0},
		{"amoand.w", 0b1100, 0b1010, 0b1000}, {"amoand.w", 0xffffffff80000000, 0x80000001, least32}, {"amoand.w", 0xffffffff00000001, 0xffffffff00000002, 0},
		{"amoor.w", 0b1100, 0b1010, 0b1110}, {"amoor.w", 0x80000000, 1, 0xffffffff80000001}, {"amoor.w", 0xffffffff00000001, 2, 3},
		{"amomin.w", 1, 2, 1}, {"amomin.w", 2, 1, 1}, {"amomin.w", 0x80000000, 1, least32}, {"amomin.w", greatest32, 0x1234ffffffff, ones}, {"amomin.w", 0xffffffff00000005, 3, 3}, {"amomin.w", 0x100000001, 2, 1}, {"amomin.w", 4, 0xffffffff00000004, 4},
		{"amomax.w", 1, 2, 2}, {"amomax.w", 2, 1, 2}, {"amomax.w", 0x80000000, 1, 1}, {"amomax.w", greatest32, 0x1234ffffffff, greatest32}, {"amomax.w", 0xffffffff00000005, 3, 5}, {"amomax.w", 0x100000001, 2, 2}, {"amomax.w", 0x80000000, 0xffffffff, ones},
		{"amominu.w", 1, 2, 1}, {"amominu.w", 2, 1, 1}, {"amominu.w", 0x80000000, 1, 1}, {"amominu.w", 0x80000000, math.MaxUint32, least32}, {"amominu.w", 0xffffffff00000005, 6, 5}, {"amominu.w", 0x100000001, 2, 1}, {"amominu.w", greatest32, least32, greatest32},
		{"amomaxu.w", 1, 2, 2}, {"amomaxu.w", 2, 1, 2}, {"amomaxu.w", 0x80000000, 1, least32}, {"amomaxu.w", 0x80000000, math.MaxUint32, ones}, {"amomaxu.w", 0xffffffff00000005, 6, 6}, {"amomaxu.w", 0x100000001, 2, 2}, {"amomaxu.w", greatest32, least32, least32},
	} {
		if got, err := alu.Amo(insn.Named(c.name), c.a, c.b); got != c.want || err != api.OK {
			t.Errorf("%s %#x, %#x = %#x, %d, want %#x", c.name, c.a, c.b, got, err, c.want)
		}
	}
}

func TestAmoOfAllPairs(t *testing.T) {
	holdPairs(t, amos(), pairs(), alu.Amo, plainAmo)
}

func TestShortAmosLookAtTheLowHalf(t *testing.T) {
	holdShort(t, amos(), alu.Amo)
}

func TestAmoOfNoAmo(t *testing.T) {
	holdNone(t, amos(), alu.Amo)
}
