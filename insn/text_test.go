package insn_test

import (
	"strings"
	"testing"

	"fencepost/api"
	"fencepost/insn"
)

// P2.2

func TestTextsThereAndBack(t *testing.T) {
	for _, k := range ops() {
		for _, i := range sample(k) {
			want := plainText(k, i)
			if got, err := insn.Text(i); got != want || err != api.OK {
				t.Fatalf("Text(%+v) = %q, %d, want %q", i, got, err, want)
			}
			if got, err := insn.Read(want); got != i || err != api.OK {
				t.Fatalf("Read(%q) = %+v, %d, want %+v", want, got, err, i)
			}
		}
	}
}

func TestTextsOfAllForms(t *testing.T) {
	for _, c := range []struct {
		i    api.Insn
		want string
	}{
		{api.Insn{Op: api.RvLui, Rd: 5, Imm: -524288}, "lui x5, -524288"},
		{api.Insn{Op: api.RvAuipc, Rd: 31, Imm: 524287}, "auipc x31, 524287"},
		{api.Insn{Op: api.RvJal, Rd: 1, Imm: -1048576}, "jal x1, -1048576"},
		{api.Insn{Op: api.RvJalr, Rd: 1, Rs1: 2, Imm: -1}, "jalr x1, -1(x2)"},
		{api.Insn{Op: api.RvAddiw, Rd: 1, Rs1: 2, Imm: -2048}, "addiw x1, x2, -2048"},
		{api.Insn{Op: api.RvLbu, Rd: 1, Rs1: 2, Imm: -8}, "lbu x1, -8(x2)"},
		{api.Insn{Op: api.RvSb, Rs1: 2, Rs2: 1, Imm: -8}, "sb x1, -8(x2)"},
		{api.Insn{Op: api.RvBgeu, Rs1: 1, Rs2: 2, Imm: -4096}, "bgeu x1, x2, -4096"},
		{api.Insn{Op: api.RvSrai, Rd: 1, Rs1: 2, Imm: 63}, "srai x1, x2, 63"},
		{api.Insn{Op: api.RvSlliw, Rd: 1, Rs1: 2, Imm: 31}, "slliw x1, x2, 31"},
		{api.Insn{Op: api.RvRemuw, Rd: 1, Rs1: 2, Rs2: 3}, "remuw x1, x2, x3"},
		{api.Insn{Op: api.RvFence}, "fence 0, 0"},
		{api.Insn{Op: api.RvFence, Pred: api.FenceI}, "fence i, 0"},
		{api.Insn{Op: api.RvFence, Pred: api.FenceO}, "fence o, 0"},
		{api.Insn{Op: api.RvFence, Succ: api.FenceR}, "fence 0, r"},
		{api.Insn{Op: api.RvFence, Succ: api.FenceW}, "fence 0, w"},
		{api.Insn{Op: api.RvFence, Pred: 15, Succ: 15}, "fence iorw, iorw"},
		{api.Insn{Op: api.RvEcall}, "ecall"},
		{api.Insn{Op: api.RvEbreak}, "ebreak"},
		{api.Insn{Op: api.RvLrW, Rd: 1, Rs1: 2}, "lr.w x1, (x2)"},
		{api.Insn{Op: api.RvLrD, Rd: 1, Rs1: 2, Aq: true}, "lr.d.aq x1, (x2)"},
		{api.Insn{Op: api.RvScW, Rd: 1, Rs1: 2, Rs2: 3, Rl: true}, "sc.w.rl x1, x3, (x2)"},
		{api.Insn{Op: api.RvAmomaxuD, Rd: 1, Rs1: 2, Rs2: 3, Aq: true, Rl: true}, "amomaxu.d.aqrl x1, x3, (x2)"},
	} {
		if got, err := insn.Text(c.i); got != c.want || err != api.OK {
			t.Errorf("Text(%+v) = %q, %d, want %q", c.i, got, err, c.want)
		}
		if got, err := insn.Read(c.want); got != c.i || err != api.OK {
			t.Errorf("Read(%q) = %+v, %d, want %+v", c.want, got, err, c.i)
		}
	}
}

func TestTextsThatAreNone(t *testing.T) {
	for _, s := range []string{
		"", " ", "\n", "0", "x1", ",", "add", "add ", "addi x5", "addi x5, x6", "addi x5, x6,", "addi x5, x6, ",
		// needless noughts, and signs
		"addi x05, x6, 3", "addi x5, x00, 3", "addi x5, x6, 03", "addi x5, x6, -03", "addi x5, x6, 00", "addi x5, x6, -0",
		"addi x5, x6, +0", "addi x5, x6, +3", "addi x5, x6, --3", "addi x5, x6, -", "addi x-0, x6, 3", "addi x+5, x6, 3",
		"ld x5, -0(x6)", "ld x5, 08(x6)", "lui x5, -0", "beq x1, x2, -0", "slli x1, x2, 01", "fence 00, 0", "fence 0, 00",
		// blanks
		" addi x5, x6, 3", "addi  x5, x6, 3", "addix5, x6, 3", "addi x5,x6, 3", "addi x5,  x6, 3", "addi x5 , x6, 3", "addi x5, x6,3",
		"addi x5, x6, 3 ", "addi\tx5, x6, 3", "addi x5, x6, 3\n", "addi x 5, x6, 3", "addi x5, x6, - 3", "ld x5, 8 (x6)", "ld x5, 8( x6)",
		"ld x5, 8(x6 )", "ecall ", " ecall", "lr.d .aq x5, (x6)", "fence rw , w", "fence r w, w", "fence rw,w",
		// commas and brackets that lack, or are too many
		"addi x5 x6, 3", "addi x5, x6 3", "addi, x5, x6, 3", "addi x5,, x6, 3", "addi x5, x6, 3,", "fence rw w", "fence rw", "fence", "fence ",
		"fence , w", "fence rw, ", "fence rw, w, r", "ld x5, 8", "ld x5, (x6)", "ld x5, 8x6", "ld x5, 8(x6", "ld x5, 8x6)", "ld x5, 8((x6))",
		"lr.d x5, x6", "lr.d x5, 0(x6)", "sc.d x1, x3, x2", "sc.d x1, (x2)", "amoadd.d x1, x3, 0(x2)",
		// capitals
		"ADDI x5, x6, 3", "Addi x5, x6, 3", "addi X5, x6, 3", "fence RW, w", "fence rw, W", "lr.D x5, (x6)", "lr.d.AQ x5, (x6)", "ECALL",
		// something behind the end
		"addi x5, x6, 3x", "addi x5, x6, 3(x2)", "ld x5, 8(x6)x", "ecall x", "ecall0", "ebreak, ", "fence rw, wx", "fence rw, w0", "addi x5, x6, 3\x00",
		// parts of a fence in another order, or twice
		"fence wr, w", "fence ro, w", "fence oi, w", "fence rw, wr", "fence wori, w", "fence rr, w", "fence iorwi, w", "fence 0w, w", "fence w0, w", "fence 3, 1",
		// marks
		"lr.d.rlaq x5, (x6)", "lr.d.aq.rl x5, (x6)", "lr.d. x5, (x6)", "lr.d.aqaq x5, (x6)", "lr.aq.d x5, (x6)", "lr.d.a x5, (x6)", "lr.daq x5, (x6)",
		"ld.aq x5, 8(x6)", "fence.aq rw, w", "ecall.aq", "add.rl x1, x2, x3",
		// another form's text
		"jalr x1, x2, 8", "addi x5, 3(x6)", "sd 8(x2), x7", "sd x7, x2, 8", "beq x1, 8", "jal 8", "add x1, x2, 3", "addi x1, x2, x3", "lui 5, x1", "ecall x10",
		// numbers that may not stand there
		"addi x32, x6, 3", "addi x5, x32, 3", "add x1, x2, x99", "addi x5, x6, 2048", "addi x5, x6, -2049", "lui x5, 524288", "lui x5, -524289",
		"jal x1, 3", "jal x1, 1048576", "beq x1, x2, 1", "beq x1, x2, 4096", "slli x1, x2, 64", "slli x1, x2, -1", "slliw x1, x2, 32", "addi x5, x6, 0x3",
		"addi x5, x6, 9223372036854775808", "addi x5, x6, -9223372036854775809", "addi x5, x6, 18446744073709551619", "addi x18446744073709551616, x6, 3",
		"addi x4294967296, x6, 3", "addi x5, x6, 1e1", "addi x5, x6, 1_0", "addi x5, x6, ٣",
		// other names
		"nop", "li x5, 3", "addi.w x5, x6, 3", "subi x5, x6, 3", "lr x5, (x6)", "fence.i", "amoadd x1, x3, (x2)", "\xff", "addi\xff x5, x6, 3",
		// two of them
		"addi x5, x6, 3 addi x5, x6, 3", "ecall\necall", "ecallebreak",
	} {
		if i, err := insn.Read(s); i != (api.Insn{}) || err != api.ErrBad {
			t.Errorf("Read(%q) = %+v, %d", s, i, err)
		}
	}
}

func TestReadEndsOnLongTexts(t *testing.T) {
	const long = 1 << 20
	for _, s := range []string{
		strings.Repeat("0", long), strings.Repeat(" ", long), strings.Repeat("addi ", long),
		"addi x5, x6, " + strings.Repeat("9", long), "addi x5, x6, " + strings.Repeat("-", long), "addi x" + strings.Repeat("0", long) + "5, x6, 3",
		"fence " + strings.Repeat("w", long), "ecall" + strings.Repeat(" ", long),
	} {
		if i, err := insn.Read(s); i != (api.Insn{}) || err != api.ErrBad {
			t.Errorf("Read(%.20q..) = %+v, %d", s, i, err)
		}
	}
}

// P2.4

// mutants calls look with every text that is one byte away from s.
func mutants(s string, look func(string)) {
	const alphabet = " ,.()-+0123456789xXwriodaqlsubAW\x00\n"
	for at := range len(s) + 1 {
		for _, c := range []byte(alphabet) {
			look(s[:at] + string(c) + s[at:])
			if at < len(s) {
				look(s[:at] + string(c) + s[at+1:])
			}
		}
		if at < len(s) {
			look(s[:at] + s[at+1:])
		}
	}
}

func TestNoOtherTextIsAnInstructions(t *testing.T) {
	is := isText()
	for _, k := range ops() {
		good := sample(k)
		for _, at := range []int{0, len(good) / 2, len(good) - 1} {
			mutants(plainText(k, good[at]), func(s string) {
				i, err := insn.Read(s)
				switch {
				case is(s) && err != api.OK:
					t.Fatalf("Read(%q) = %d, but it is a text", s, err)
				case !is(s) && (err != api.ErrBad || i != api.Insn{}):
					t.Fatalf("Read(%q) = %+v, %d, but it is no text", s, i, err)
				}
				if again, _ := insn.Text(i); err == api.OK && again != s {
					t.Fatalf("Read(%q) = %+v, whose text is %q", s, i, again)
				}
			})
		}
	}
}

func TestTextsTellInstructionsApart(t *testing.T) {
	met := map[string]api.Insn{}
	for _, k := range ops() {
		for _, i := range sample(k) {
			s, _ := insn.Text(i)
			if other, there := met[s]; there {
				t.Fatalf("%+v and %+v have the text %q", other, i, s)
			}
			met[s] = i
		}
	}
}

// The chapter's examples.

func TestExamples(t *testing.T) {
	for _, c := range []struct {
		i    api.Insn
		text string
	}{
		{api.Insn{Op: api.RvAddi, Rd: 5, Rs1: 6, Imm: -3}, "addi x5, x6, -3"},
		{api.Insn{Op: api.RvSd, Rs1: 2, Rs2: 7, Imm: 8}, "sd x7, 8(x2)"},
		{api.Insn{Op: api.RvFence, Pred: 3, Succ: 1}, "fence rw, w"},
		{api.Insn{Op: api.RvScD, Rd: 1, Rs1: 2, Rs2: 3, Aq: true, Rl: true}, "sc.d.aqrl x1, x3, (x2)"},
	} {
		if got, err := insn.Text(c.i); got != c.text || err != api.OK {
			t.Errorf("Text(%+v) = %q, %d, want %q", c.i, got, err, c.text)
		}
		if got, err := insn.Read(c.text); got != c.i || err != api.OK {
			t.Errorf("Read(%q) = %+v, %d, want %+v", c.text, got, err, c.i)
		}
	}
}
