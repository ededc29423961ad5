package alu

import (
	"fencepost/api"
	"fencepost/word"
)

// plains has of each op with a number in it the one without.
func plains() [api.RvSraiw + 1]int {
	return [...]int{
		api.RvAddi: api.RvAdd, api.RvSlti: api.RvSlt, api.RvSltiu: api.RvSltu,
		api.RvXori: api.RvXor, api.RvOri: api.RvOr, api.RvAndi: api.RvAnd,
		api.RvSlli: api.RvSll, api.RvSrli: api.RvSrl, api.RvSrai: api.RvSra,
		api.RvAddiw: api.RvAddw,
		api.RvSlliw: api.RvSllw, api.RvSrliw: api.RvSrlw, api.RvSraiw: api.RvSraw,
	}
}

// reckons has of lui, and of each op that is plain, what it answers. What is of type int32 is spread by its sign as it is; other short answers are made so.
func reckons() [api.RvRemuw + 1]func(a, b uint64) uint64 {
	return [...]func(a, b uint64) uint64{
		api.RvLui: func(_, b uint64) uint64 { return word.Short(b << 12) },

		api.RvAdd:  func(a, b uint64) uint64 { return a + b },
		api.RvSub:  func(a, b uint64) uint64 { return a - b },
		api.RvSll:  func(a, b uint64) uint64 { return a << long(b) },
		api.RvSlt:  func(a, b uint64) uint64 { return bit(int64(a) < int64(b)) },
		api.RvSltu: func(a, b uint64) uint64 { return bit(a < b) },
		api.RvXor:  func(a, b uint64) uint64 { return a ^ b },
		api.RvSrl:  func(a, b uint64) uint64 { return a >> long(b) },
		api.RvSra:  func(a, b uint64) uint64 { return uint64(int64(a) >> long(b)) },
		api.RvOr:   func(a, b uint64) uint64 { return a | b },
		api.RvAnd:  func(a, b uint64) uint64 { return a & b },

		api.RvAddw: func(a, b uint64) uint64 { return word.Short(a + b) },
		api.RvSubw: func(a, b uint64) uint64 { return word.Short(a - b) },
		api.RvSllw: func(a, b uint64) uint64 { return word.Short(a << short(b)) },
		api.RvSrlw: func(a, b uint64) uint64 { return word.Short(uint64(uint32(a) >> short(b))) },
		api.RvSraw: func(a, b uint64) uint64 { return uint64(int32(a) >> short(b)) },

		api.RvMul:    func(a, b uint64) uint64 { return a * b },
		api.RvMulh:   func(a, b uint64) uint64 { return high(a, b) - above(a, b) - above(b, a) },
		api.RvMulhsu: func(a, b uint64) uint64 { return high(a, b) - above(a, b) },
		api.RvMulhu:  func(a, b uint64) uint64 { return high(a, b) },
		api.RvDiv:    func(a, b uint64) uint64 { return uint64(quotient(int64(a), int64(b))) },
		api.RvDivu:   func(a, b uint64) uint64 { return quotient(a, b) },
		api.RvRem:    func(a, b uint64) uint64 { return uint64(rest(int64(a), int64(b))) },
		api.RvRemu:   func(a, b uint64) uint64 { return rest(a, b) },

		api.RvMulw:  func(a, b uint64) uint64 { return word.Short(a * b) },
		api.RvDivw:  func(a, b uint64) uint64 { return uint64(quotient(int32(a), int32(b))) },
		api.RvDivuw: func(a, b uint64) uint64 { return word.Short(uint64(quotient(uint32(a), uint32(b)))) },
		api.RvRemw:  func(a, b uint64) uint64 { return uint64(rest(int32(a), int32(b))) },
		api.RvRemuw: func(a, b uint64) uint64 { return word.Short(uint64(rest(uint32(a), uint32(b)))) },
	}
}

// branches has of each branch whether it is taken.
func branches() [api.RvBgeu + 1]func(a, b uint64) bool {
	return [...]func(a, b uint64) bool{
		api.RvBeq:  func(a, b uint64) bool { return a == b },
		api.RvBne:  func(a, b uint64) bool { return a != b },
		api.RvBlt:  func(a, b uint64) bool { return int64(a) < int64(b) },
		api.RvBge:  func(a, b uint64) bool { return int64(a) >= int64(b) },
		api.RvBltu: func(a, b uint64) bool { return a < b },
		api.RvBgeu: func(a, b uint64) bool { return a >= b },
	}
}

// amos has of each amo of doubles what it stores.
func amos() [api.RvAmomaxuD + 1]func(was, b uint64) uint64 {
	return [...]func(was, b uint64) uint64{
		api.RvAmoswapD: func(_, b uint64) uint64 { return b },
		api.RvAmoaddD:  func(was, b uint64) uint64 { return was + b },
		api.RvAmoxorD:  func(was, b uint64) uint64 { return was ^ b },
		api.RvAmoandD:  func(was, b uint64) uint64 { return was & b },
		api.RvAmoorD:   func(was, b uint64) uint64 { return was | b },
		api.RvAmominD:  func(was, b uint64) uint64 { return uint64(min(int64(was), int64(b))) },
		api.RvAmomaxD:  func(was, b uint64) uint64 { return uint64(max(int64(was), int64(b))) },
		api.RvAmominuD: func(was, b uint64) uint64 { return min(was, b) },
		api.RvAmomaxuD: func(was, b uint64) uint64 { return max(was, b) },
	}
}
