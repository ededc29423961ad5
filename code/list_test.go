package code_test

import (
	"bytes"
	"math"
	"slices"
	"testing"

	"fencepost/api"
	"fencepost/code"
	"fencepost/insn"
)

// P3.2

// words answers n words, of which each byte tells where it stands.
func words(n int) []uint32 {
	var l []uint32
	for at := range uint32(n) {
		l = append(l, 4*at|(4*at+1)<<8|(4*at+2)<<16|(4*at+3)<<24)
	}
	return l
}

func TestBytesAndWords(t *testing.T) {
	for _, c := range []struct {
		l []uint32
		b []byte
	}{
		{nil, nil}, {[]uint32{}, []byte{}},
		{[]uint32{0}, []byte{0, 0, 0, 0}},
		{[]uint32{0x12345678}, []byte{0x78, 0x56, 0x34, 0x12}},
		{[]uint32{0xffd30293}, []byte{0x93, 0x02, 0xd3, 0xff}},
		{[]uint32{math.MaxUint32, 1}, []byte{0xff, 0xff, 0xff, 0xff, 1, 0, 0, 0}},
		{[]uint32{0x80000000, 0x00800000, 0x00008000, 0x00000080}, []byte{0, 0, 0, 0x80, 0, 0, 0x80, 0, 0, 0x80, 0, 0, 0x80, 0, 0, 0}},
	} {
		if got := code.Bytes(c.l); !bytes.Equal(got, c.b) {
			t.Errorf("Bytes(%x) = %x, want %x", c.l, got, c.b)
		}
		if got, err := code.Words(c.b); !slices.Equal(got, c.l) || err != api.OK {
			t.Errorf("Words(%x) = %x, %d, want %x", c.b, got, err, c.l)
		}
	}
}

func TestBytesOfMany(t *testing.T) {
	const many = 64
	b := code.Bytes(words(many))
	if len(b) != 4*many {
		t.Fatalf("Bytes of %d words has %d", many, len(b))
	}
	for at := range b {
		if int(b[at]) != at {
			t.Fatalf("byte %d is %d", at, b[at])
		}
	}
	if l, err := code.Words(b); !slices.Equal(l, words(many)) || err != api.OK {
		t.Errorf("Words of Bytes = %x, %d", l, err)
	}
}

func TestWordsOfEachLength(t *testing.T) {
	b := code.Bytes(words(10))
	for n := range len(b) + 1 {
		l, err := code.Words(b[:n])
		if n%4 != 0 {
			if len(l) != 0 || err != api.ErrBad {
				t.Errorf("Words of %d bytes = %x, %d", n, l, err)
			}
			continue
		}
		if !slices.Equal(l, words(n/4)) || err != api.OK {
			t.Errorf("Words of %d bytes = %x, %d", n, l, err)
		}
	}
}

func TestDump(t *testing.T) {
	for _, c := range []struct {
		l    []uint32
		want []string
	}{
		{nil, nil}, {[]uint32{}, nil},
		{[]uint32{0}, []string{".00000000"}},
		{[]uint32{math.MaxUint32}, []string{".ffffffff"}},
		{[]uint32{0x00000073, 0x0000abcd, 0xffd30293, 0xffd30293, 0x8330000f, 0x0330000f, 1, 0xdeadbeef}, []string{
			"ecall", ".0000abcd", "addi x5, x6, -3", "addi x5, x6, -3", ".8330000f", "fence rw, rw", ".00000001", "jal x29, -150038",
		}},
	} {
		if got := code.Dump(c.l); !slices.Equal(got, c.want) {
			t.Errorf("Dump(%x) = %q, want %q", c.l, got, c.want)
		}
	}
}

func TestDumpOfAllOps(t *testing.T) {
	var l []uint32
	var want []string
	for _, k := range ops() {
		good := sample(k)
		i := good[len(good)-1]
		s, _ := insn.Text(i)
		l, want = append(l, plainWord(k, i)), append(want, s)
	}
	if got := code.Dump(l); !slices.Equal(got, want) {
		t.Errorf("Dump(%x) = %q, want %q", l, got, want)
	}
}

// Rule 3: what is handed in, and its spare room, stay as they are; answers are new.

func TestWhatIsHandedInStays(t *testing.T) {
	l := words(8)
	b := code.Bytes(l)
	code.Bytes(l[:3])
	code.Dump(l[:3])
	code.Words(b[:12])
	code.Words(b[:13])
	if !slices.Equal(l, words(8)) {
		t.Errorf("the words are %x", l)
	}
	if !bytes.Equal(b, code.Bytes(words(8))) {
		t.Errorf("the bytes are %x", b)
	}
}

func TestAnswersAreNew(t *testing.T) {
	l := words(4)
	b, again := code.Bytes(l), code.Bytes(l)
	clear(b[:cap(b)])
	if !bytes.Equal(again, code.Bytes(words(4))) || !slices.Equal(l, words(4)) {
		t.Error("answers of Bytes share memory")
	}
	w, _ := code.Words(again)
	other, _ := code.Words(again)
	clear(w[:cap(w)])
	if !slices.Equal(other, words(4)) || !bytes.Equal(again, code.Bytes(words(4))) {
		t.Error("answers of Words share memory")
	}
	d, more := code.Dump(l), code.Dump(l)
	clear(d[:cap(d)])
	if slices.Contains(more, "") || !slices.Equal(l, words(4)) {
		t.Error("answers of Dump share memory")
	}
}

func TestAnswersAreNotOfWhatCameAhead(t *testing.T) {
	want, _ := code.Word(api.Insn{Op: api.RvSub, Rd: 1, Rs1: 2, Rs2: 3})
	for _, i := range wrong()[:50] {
		code.Word(i)
	}
	code.Insn(0)
	code.Dump(words(9))
	if got, err := code.Word(api.Insn{Op: api.RvSub, Rd: 1, Rs1: 2, Rs2: 3}); got != want || got != 0x403100b3 || err != api.OK {
		t.Errorf("Word = %08x, %d, then %08x", want, err, got)
	}
}

// The chapter's examples.

func TestExamples(t *testing.T) {
	for _, c := range []struct {
		text string
		word uint32
	}{
		{"addi x5, x6, -3", 0xffd30293}, {"sd x7, 8(x2)", 0x00713423}, {"beq x1, x2, -4", 0xfe208ee3},
		{"jal x1, 2048", 0x001000ef}, {"fence rw, rw", 0x0330000f}, {"lr.d.aq x5, (x6)", 0x140332af},
	} {
		i, _ := insn.Read(c.text)
		if got, err := code.Word(i); got != c.word || err != api.OK {
			t.Errorf("Word of %q = %08x, %d, want %08x", c.text, got, err, c.word)
		}
		if got, err := code.Insn(c.word); got != i || err != api.OK {
			t.Errorf("Insn(%08x) = %+v, %d, want %q", c.word, got, err, c.text)
		}
		if got := code.Dump([]uint32{c.word}); !slices.Equal(got, []string{c.text}) {
			t.Errorf("Dump(%08x) = %q, want %q", c.word, got, c.text)
		}
	}
}
