package insn_test

import (
	"math"
	"slices"
	"strings"
	"testing"

	"fencepost/api"
	"fencepost/insn"
)

// P2.1

func TestOpsHaveTheirFormsAndNames(t *testing.T) {
	all := ops()
	if len(all) != 87 {
		t.Fatalf("the test's list has %d ops", len(all))
	}
	for _, k := range all {
		if got := insn.Form(k.op); got != k.form {
			t.Errorf("Form(%d) = %d, want %d", k.op, got, k.form)
		}
		if got := insn.Name(k.op); got != k.name {
			t.Errorf("Name(%d) = %q, want %q", k.op, got, k.name)
		}
		if got := insn.Named(k.name); got != k.op {
			t.Errorf("Named(%q) = %d, want %d", k.name, got, k.op)
		}
	}
}

func TestOpsStandWhereApiNamesThem(t *testing.T) {
	for op, name := range map[int]string{
		api.RvLui: "lui", api.RvJal: "jal", api.RvJalr: "jalr", api.RvBgeu: "bgeu", api.RvLd: "ld", api.RvSd: "sd",
		api.RvAddi: "addi", api.RvSrai: "srai", api.RvAddiw: "addiw", api.RvSraiw: "sraiw", api.RvSraw: "sraw",
		api.RvMul: "mul", api.RvRemuw: "remuw", api.RvFence: "fence", api.RvEcall: "ecall", api.RvEbreak: "ebreak",
		api.RvLrD: "lr.d", api.RvScD: "sc.d", api.RvAmomaxuW: "amomaxu.w", api.RvAmomaxuD: "amomaxu.d",
	} {
		if insn.Name(op) != name {
			t.Errorf("Name(%d) = %q, want %q", op, insn.Name(op), name)
		}
	}
}

func TestNumbersThatAreNoOps(t *testing.T) {
	for _, op := range noOps {
		if got := insn.Form(op); got != 0 {
			t.Errorf("Form(%d) = %d", op, got)
		}
		if got := insn.Name(op); got != "" {
			t.Errorf("Name(%d) = %q", op, got)
		}
	}
}

func TestNamesThatAreNoOps(t *testing.T) {
	for _, s := range []string{
		"", " ", "x", "nop", "ADD", "Add", "add ", " add", "addi x1", "ad", "addd", "addiu", "lr", "lr.", "lr.w.aq", "lr.q",
		"sc.d.aqrl", "amoadd", "amoadd.", "fence.i", "subi", "subiw", "fence rw, rw", "add\x00", "\xff", "lui\nauipc",
		strings.Repeat("a", 1<<16),
	} {
		if got := insn.Named(s); got != 0 {
			t.Errorf("Named(%q) = %d", s, got)
		}
	}
}

func TestCheckTakesWhatMayBe(t *testing.T) {
	for _, k := range ops() {
		for _, i := range sample(k) {
			if err := insn.Check(i); err != api.OK {
				t.Fatalf("Check(%+v) = %d", i, err)
			}
		}
	}
}

func TestCheckOfNoOp(t *testing.T) {
	for _, op := range noOps {
		if err := insn.Check(api.Insn{Op: op}); err != api.ErrArg {
			t.Errorf("Check of op %d = %d", op, err)
		}
	}
}

// expect checks an instruction against the reference.
func expect(t *testing.T, k known, i api.Insn) {
	t.Helper()
	want := api.ErrArg
	if mayBe(k, i) {
		want = api.OK
	}
	if err := insn.Check(i); err != want {
		t.Errorf("Check(%+v) = %d, want %d", i, err, want)
	}
}

func TestCheckAtEdgesOfSmallFields(t *testing.T) {
	for _, k := range ops() {
		for _, field := range []string{"Rd", "Rs1", "Rs2", "Pred", "Succ"} {
			for _, x := range []int{math.MinInt, math.MinInt32, -32, -16, -1, 0, 1, 15, 16, 31, 32, 33, 64, 1 << 32, math.MaxInt} {
				i := api.Insn{Op: k.op}
				*numbers(&i)[field] = x
				expect(t, k, i)
			}
		}
	}
}

func TestCheckAtEdgesOfNumbers(t *testing.T) {
	for _, k := range ops() {
		least, greatest, _ := immEdges(k)
		for _, edge := range []int64{least, greatest, 0, 31, 32, 63, 64, -2048, 2047, -4096, 4095, 1 << 20, 1 << 32, math.MinInt64 + 3, math.MaxInt64 - 3} {
			for v := edge - 3; v <= edge+2; v++ {
				expect(t, k, api.Insn{Op: k.op, Imm: v})
			}
		}
		expect(t, k, api.Insn{Op: k.op, Imm: math.MinInt64})
		expect(t, k, api.Insn{Op: k.op, Imm: math.MaxInt64})
	}
}

func TestCheckNamedEdges(t *testing.T) {
	for _, c := range []struct {
		i  api.Insn
		ok bool
	}{
		{api.Insn{Op: api.RvLui, Imm: 1<<19 - 1}, true}, {api.Insn{Op: api.RvLui, Imm: 1 << 19}, false},
		{api.Insn{Op: api.RvAuipc, Imm: -1 << 19}, true}, {api.Insn{Op: api.RvAuipc, Imm: -1<<19 - 1}, false},
		{api.Insn{Op: api.RvJal, Imm: 1<<20 - 2}, true}, {api.Insn{Op: api.RvJal, Imm: 1<<20 - 1}, false}, {api.Insn{Op: api.RvJal, Imm: 1 << 20}, false},
		{api.Insn{Op: api.RvJal, Imm: -1 << 20}, true}, {api.Insn{Op: api.RvJal, Imm: -1<<20 - 2}, false}, {api.Insn{Op: api.RvJal, Imm: -1}, false},
		{api.Insn{Op: api.RvJalr, Imm: 1}, true}, {api.Insn{Op: api.RvJalr, Imm: 2048}, false},
		{api.Insn{Op: api.RvAddi, Imm: 2047}, true}, {api.Insn{Op: api.RvAddi, Imm: 2048}, false},
		{api.Insn{Op: api.RvLd, Imm: -2048}, true}, {api.Insn{Op: api.RvLd, Imm: -2049}, false},
		{api.Insn{Op: api.RvSd, Imm: 2047}, true}, {api.Insn{Op: api.RvSd, Imm: 2048}, false},
		{api.Insn{Op: api.RvBeq, Imm: 4094}, true}, {api.Insn{Op: api.RvBeq, Imm: 4095}, false}, {api.Insn{Op: api.RvBeq, Imm: 4096}, false},
		{api.Insn{Op: api.RvBeq, Imm: -4096}, true}, {api.Insn{Op: api.RvBeq, Imm: -4098}, false}, {api.Insn{Op: api.RvBeq, Imm: 3}, false},
		{api.Insn{Op: api.RvSlli, Imm: 63}, true}, {api.Insn{Op: api.RvSlli, Imm: 64}, false}, {api.Insn{Op: api.RvSlli, Imm: -1}, false},
		{api.Insn{Op: api.RvSraiw, Imm: 31}, true}, {api.Insn{Op: api.RvSraiw, Imm: 32}, false}, {api.Insn{Op: api.RvSraiw, Imm: -1}, false},
		{api.Insn{Op: api.RvAdd, Imm: 1}, false}, {api.Insn{Op: api.RvLrD, Imm: 8}, false}, {api.Insn{Op: api.RvAmoaddD, Imm: 8}, false},
		{api.Insn{Op: api.RvFence, Pred: 15, Succ: 15}, true}, {api.Insn{Op: api.RvFence, Pred: 16}, false}, {api.Insn{Op: api.RvFence, Succ: -1}, false},
		{api.Insn{Op: api.RvFence, Rd: 1}, false}, {api.Insn{Op: api.RvFence, Rs1: 1}, false},
		{api.Insn{Op: api.RvEcall, Rs1: 10}, false}, {api.Insn{Op: api.RvEbreak, Imm: 1}, false},
		{api.Insn{Op: api.RvLrD, Rs2: 1}, false}, {api.Insn{Op: api.RvScD, Rd: 31, Rs1: 31, Rs2: 31, Aq: true, Rl: true}, true},
		{api.Insn{Op: api.RvLd, Aq: true}, false}, {api.Insn{Op: api.RvSd, Rl: true}, false}, {api.Insn{Op: api.RvFence, Aq: true}, false},
		{api.Insn{Op: api.RvSd, Rd: 1}, false}, {api.Insn{Op: api.RvAddi, Rs2: 1}, false}, {api.Insn{Op: api.RvAdd, Pred: 1}, false},
	} {
		want := api.ErrArg
		if c.ok {
			want = api.OK
		}
		if err := insn.Check(c.i); err != want {
			t.Errorf("Check(%+v) = %d, want %d", c.i, err, want)
		}
	}
}

// wrong answers instructions that may not be: each is a good one with one field amiss.
func wrong() []api.Insn {
	var l []api.Insn
	for _, op := range noOps {
		l = append(l, api.Insn{Op: op}, api.Insn{Op: op, Rd: 1, Rs1: 2, Rs2: 3})
	}
	for _, k := range ops() {
		good := sample(k)
		i := good[len(good)-1]
		amiss := func(f func(*api.Insn)) {
			j := i
			f(&j)
			l = append(l, j)
		}
		for _, field := range []string{"Rd", "Rs1", "Rs2", "Pred", "Succ"} {
			beyond := lastOf(field) + 1
			if !hasField(k.form, field) {
				beyond = 1
			}
			amiss(func(i *api.Insn) { *numbers(i)[field] = beyond })
			amiss(func(i *api.Insn) { *numbers(i)[field] = -1 })
		}
		least, greatest, step := immEdges(k)
		amiss(func(i *api.Insn) { i.Imm = greatest + 1 })
		amiss(func(i *api.Insn) { i.Imm = least - 1 })
		if step == 2 {
			amiss(func(i *api.Insn) { i.Imm = 1 })
		}
		if !hasField(k.form, "Aq") {
			amiss(func(i *api.Insn) { i.Aq = true })
			amiss(func(i *api.Insn) { i.Rl = true })
		}
	}
	return l
}

func TestWhatMayNotBeAnswersNothing(t *testing.T) {
	for _, i := range wrong() {
		if err := insn.Check(i); err != api.ErrArg {
			t.Errorf("Check(%+v) = %d", i, err)
		}
		if s, err := insn.Text(i); s != "" || err != api.ErrArg {
			t.Errorf("Text(%+v) = %q, %d", i, s, err)
		}
		if l := insn.Reads(i); len(l) != 0 {
			t.Errorf("Reads(%+v) = %v", i, l)
		}
		if x := insn.Writes(i); x != 0 {
			t.Errorf("Writes(%+v) = %d", i, x)
		}
	}
}

// P2.3

// plainReads marks registers, and tells them by rising number.
func plainReads(k known, i api.Insn) []int {
	var read [32]bool
	if k.name == "ecall" {
		read[10], read[17] = true, true
	}
	if hasField(k.form, "Rs1") {
		read[i.Rs1] = true
	}
	if hasField(k.form, "Rs2") {
		read[i.Rs2] = true
	}
	var l []int
	for x := 1; x < 32; x++ {
		if read[x] {
			l = append(l, x)
		}
	}
	return l
}

func TestReadsAndWrites(t *testing.T) {
	for _, k := range ops() {
		for _, i := range sample(k) {
			if got, want := insn.Reads(i), plainReads(k, i); !slices.Equal(got, want) {
				t.Fatalf("Reads(%+v) = %v, want %v", i, got, want)
			}
			want := 0
			if hasField(k.form, "Rd") {
				want = i.Rd
			}
			if got := insn.Writes(i); got != want {
				t.Fatalf("Writes(%+v) = %d, want %d", i, got, want)
			}
		}
	}
}

func TestReadsAtEdges(t *testing.T) {
	for _, c := range []struct {
		i    api.Insn
		want []int
	}{
		{api.Insn{Op: api.RvAdd, Rd: 1, Rs1: 7, Rs2: 3}, []int{3, 7}},
		{api.Insn{Op: api.RvAdd, Rd: 1, Rs1: 3, Rs2: 7}, []int{3, 7}},
		{api.Insn{Op: api.RvAdd, Rd: 1, Rs1: 7, Rs2: 7}, []int{7}},
		{api.Insn{Op: api.RvAdd, Rd: 1, Rs1: 0, Rs2: 31}, []int{31}},
		{api.Insn{Op: api.RvAdd, Rd: 1}, nil},
		{api.Insn{Op: api.RvAddi, Rs1: 5, Imm: 9}, []int{5}},
		{api.Insn{Op: api.RvSd, Rs1: 9, Rs2: 4}, []int{4, 9}},
		{api.Insn{Op: api.RvScD, Rd: 2, Rs1: 9, Rs2: 4}, []int{4, 9}},
		{api.Insn{Op: api.RvLrD, Rd: 2, Rs1: 9}, []int{9}},
		{api.Insn{Op: api.RvJalr, Rd: 2, Rs1: 9}, []int{9}},
		{api.Insn{Op: api.RvJal, Rd: 2}, nil},
		{api.Insn{Op: api.RvLui, Rd: 2, Imm: 3}, nil},
		{api.Insn{Op: api.RvEcall}, []int{10, 17}},
		{api.Insn{Op: api.RvEbreak}, nil},
		{api.Insn{Op: api.RvFence, Pred: 15, Succ: 15}, nil},
	} {
		if got := insn.Reads(c.i); !slices.Equal(got, c.want) {
			t.Errorf("Reads(%+v) = %v, want %v", c.i, got, c.want)
		}
	}
}

func TestReadsAreNewEachTime(t *testing.T) {
	for _, i := range []api.Insn{{Op: api.RvEcall}, {Op: api.RvAdd, Rs1: 10, Rs2: 17}} {
		a := insn.Reads(i)
		b := insn.Reads(i)
		a[0] = 99
		_ = append(a, 99)
		if !slices.Equal(b, []int{10, 17}) || !slices.Equal(insn.Reads(i), []int{10, 17}) {
			t.Errorf("answers of Reads(%+v) share memory", i)
		}
	}
}

func TestMemory(t *testing.T) {
	type does struct {
		loads, stores bool
		size          int
	}
	plain := map[string]does{
		"lb": {true, false, 1}, "lh": {true, false, 2}, "lw": {true, false, 4}, "ld": {true, false, 8},
		"lbu": {true, false, 1}, "lhu": {true, false, 2}, "lwu": {true, false, 4},
		"sb": {false, true, 1}, "sh": {false, true, 2}, "sw": {false, true, 4}, "sd": {false, true, 8},
		"lr.w": {true, false, 4}, "lr.d": {true, false, 8}, "sc.w": {false, true, 4}, "sc.d": {false, true, 8},
	}
	for _, k := range ops() {
		want := plain[k.name]
		if strings.HasPrefix(k.name, "amo") {
			want = does{true, true, 4}
			if strings.HasSuffix(k.name, ".d") {
				want.size = 8
			}
		}
		loads, stores, size := insn.Memory(k.op)
		if got := (does{loads, stores, size}); got != want {
			t.Errorf("Memory of %s = %v, want %v", k.name, got, want)
		}
	}
	for _, op := range noOps {
		if loads, stores, size := insn.Memory(op); loads || stores || size != 0 {
			t.Errorf("Memory(%d) = %v, %v, %d", op, loads, stores, size)
		}
	}
}
