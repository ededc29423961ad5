package insn_test

import (
	"fmt"
	"regexp"
	"slices"
	"strconv"
	"strings"

	"fencepost/api"
)

// What stands here is the chapter told once more, by other means than the package's: a list of names, format strings, regular expressions.

// chapter has the ops in the order of their numbers, with their forms.
var chapter = []struct {
	form  int
	names string
}{
	{1, "lui auipc"},
	{2, "jal"},
	{3, "jalr"},
	{6, "beq bne blt bge bltu bgeu"},
	{4, "lb lh lw ld lbu lhu lwu"},
	{5, "sb sh sw sd"},
	{3, "addi slti sltiu xori ori andi"},
	{7, "slli srli srai"},
	{3, "addiw"},
	{7, "slliw srliw sraiw"},
	{8, "add sub sll slt sltu xor srl sra or and addw subw sllw srlw sraw"},
	{8, "mul mulh mulhsu mulhu div divu rem remu mulw divw divuw remw remuw"},
	{9, "fence"},
	{10, "ecall ebreak"},
	{11, "lr.w lr.d"},
	{12, "sc.w sc.d"},
	{12, "amoswap.w amoadd.w amoxor.w amoand.w amoor.w amomin.w amomax.w amominu.w amomaxu.w"},
	{12, "amoswap.d amoadd.d amoxor.d amoand.d amoor.d amomin.d amomax.d amominu.d amomaxu.d"},
}

type known struct {
	op, form int
	name     string
}

// ops lists all ops as the chapter numbers them.
func ops() []known {
	var l []known
	for _, group := range chapter {
		for _, name := range strings.Fields(group.names) {
			l = append(l, known{len(l) + 1, group.form, name})
		}
	}
	return l
}

// noOps are numbers that are no op's.
var noOps = []int{0, -1, -87, -1 << 63, 88, 89, 175, 1 << 32, 1<<32 + 1, 1<<63 - 1}

// immEdges answers the least and the greatest number of an op, and the step between good ones; of a form without a number 0, 0.
func immEdges(k known) (least, greatest, step int64) {
	switch k.form {
	case 1:
		return -524288, 524287, 1
	case 2:
		return -1048576, 1048574, 2
	case 3, 4, 5:
		return -2048, 2047, 1
	case 6:
		return -4096, 4094, 2
	case 7:
		if strings.HasSuffix(k.name, "w") {
			return 0, 31, 1
		}
		return 0, 63, 1
	}
	return 0, 0, 1
}

// fieldsOf names a form's fields.
func fieldsOf(form int) []string {
	return strings.Fields([]string{
		1:  "Rd Imm",
		2:  "Rd Imm",
		3:  "Rd Rs1 Imm",
		4:  "Rd Rs1 Imm",
		5:  "Rs1 Rs2 Imm",
		6:  "Rs1 Rs2 Imm",
		7:  "Rd Rs1 Imm",
		8:  "Rd Rs1 Rs2",
		9:  "Pred Succ",
		10: "",
		11: "Rd Rs1 Aq Rl",
		12: "Rd Rs1 Rs2 Aq Rl",
	}[form])
}

func hasField(form int, field string) bool {
	return slices.Contains(fieldsOf(form), field)
}

// numbers answers pointers to the fields that are numbers of small range.
func numbers(i *api.Insn) map[string]*int {
	return map[string]*int{"Rd": &i.Rd, "Rs1": &i.Rs1, "Rs2": &i.Rs2, "Pred": &i.Pred, "Succ": &i.Succ}
}

// lastOf answers the greatest number of a field.
func lastOf(field string) int {
	if field == "Pred" || field == "Succ" {
		return 15
	}
	return 31
}

// mayBe takes each good field away from the instruction: only its Op may be left.
func mayBe(k known, i api.Insn) bool {
	for field, x := range numbers(&i) {
		if hasField(k.form, field) && *x >= 0 && *x <= lastOf(field) {
			*x = 0
		}
	}
	if hasField(k.form, "Aq") {
		i.Aq, i.Rl = false, false
	}
	least, greatest, step := immEdges(k)
	if hasField(k.form, "Imm") && i.Imm >= least && i.Imm <= greatest && i.Imm%step == 0 {
		i.Imm = 0
	}
	return i == api.Insn{Op: k.op}
}

// sample answers instructions that may be, of an op: all that its fields' edges and some numbers between come to.
func sample(k known) []api.Insn {
	l := []api.Insn{{Op: k.op}}
	cross := func(field string, set ...func(*api.Insn)) {
		if !hasField(k.form, field) {
			return
		}
		var wider []api.Insn
		for _, i := range l {
			for _, f := range set {
				j := i
				f(&j)
				wider = append(wider, j)
			}
		}
		l = wider
	}
	some := []int{0, 1, 2, 7, 9, 10, 15, 17, 20, 30, 31}
	all := []int{0, 1, 2, 3, 4, 5, 6, 7, 8, 9, 10, 11, 12, 13, 14, 15}
	for _, field := range []string{"Rd", "Rs1", "Rs2", "Pred", "Succ"} {
		reach := some
		if lastOf(field) == 15 {
			reach = all
		}
		var set []func(*api.Insn)
		for _, x := range reach {
			set = append(set, func(i *api.Insn) { *numbers(i)[field] = x })
		}
		cross(field, set...)
	}
	least, greatest, step := immEdges(k)
	edges := []int64{least, least + step, -10 * step, -step, 0, step, 10 * step, greatest - step, greatest}
	slices.Sort(edges)
	var set []func(*api.Insn)
	for _, v := range slices.Compact(edges) {
		if v >= least && v <= greatest {
			set = append(set, func(i *api.Insn) { i.Imm = v })
		}
	}
	cross("Imm", set...)
	cross("Aq", func(*api.Insn) {}, func(i *api.Insn) { i.Aq = true })
	cross("Rl", func(*api.Insn) {}, func(i *api.Insn) { i.Rl = true })
	return l
}

// letters answers a fence's part as text.
func letters(set int) string {
	return []string{
		"0", "w", "r", "rw", "o", "ow", "or", "orw",
		"i", "iw", "ir", "irw", "io", "iow", "ior", "iorw",
	}[set]
}

// plainText formats an instruction that may be.
func plainText(k known, i api.Insn) string {
	name := k.name + map[[2]bool]string{{true, false}: ".aq", {false, true}: ".rl", {true, true}: ".aqrl"}[[2]bool{i.Aq, i.Rl}]
	switch {
	case k.form == 1, k.form == 2:
		return fmt.Sprintf("%s x%d, %d", name, i.Rd, i.Imm)
	case k.name == "jalr", k.form == 4:
		return fmt.Sprintf("%s x%d, %d(x%d)", name, i.Rd, i.Imm, i.Rs1)
	case k.form == 3, k.form == 7:
		return fmt.Sprintf("%s x%d, x%d, %d", name, i.Rd, i.Rs1, i.Imm)
	case k.form == 5:
		return fmt.Sprintf("%s x%d, %d(x%d)", name, i.Rs2, i.Imm, i.Rs1)
	case k.form == 6:
		return fmt.Sprintf("%s x%d, x%d, %d", name, i.Rs1, i.Rs2, i.Imm)
	case k.form == 8:
		return fmt.Sprintf("%s x%d, x%d, x%d", name, i.Rd, i.Rs1, i.Rs2)
	case k.form == 9:
		return fmt.Sprintf("%s %s, %s", name, letters(i.Pred), letters(i.Succ))
	case k.form == 11:
		return fmt.Sprintf("%s x%d, (x%d)", name, i.Rd, i.Rs1)
	case k.form == 12:
		return fmt.Sprintf("%s x%d, x%d, (x%d)", name, i.Rd, i.Rs2, i.Rs1)
	}
	return name
}

const (
	register = `x(?:[0-9]|[12][0-9]|3[01])`
	number   = `(0|-?[1-9][0-9]*)`
	between  = `(?:0|io?r?w?|or?w?|rw?|w)`
)

// pattern answers the regular expression of an op's texts, but for the range of the number.
func pattern(k known) *regexp.Regexp {
	operands := []string{
		1:  ` R, N`,
		2:  ` R, N`,
		3:  ` R, R, N`,
		4:  ` R, N\(R\)`,
		5:  ` R, N\(R\)`,
		6:  ` R, R, N`,
		7:  ` R, R, N`,
		8:  ` R, R, R`,
		9:  ` S, S`,
		10: ``,
		11: `(?:\.aq|\.rl|\.aqrl)? R, \(R\)`,
		12: `(?:\.aq|\.rl|\.aqrl)? R, R, \(R\)`,
	}[k.form]
	if k.name == "jalr" {
		operands = ` R, N\(R\)`
	}
	operands = strings.NewReplacer("R", register, "N", number, "S", between).Replace(operands)
	return regexp.MustCompile(`\A` + regexp.QuoteMeta(k.name) + operands + `\z`)
}

// isText answers a function that tells whether a text is some instruction's.
func isText() func(string) bool {
	all := ops()
	patterns := make([]*regexp.Regexp, len(all))
	for at, k := range all {
		patterns[at] = pattern(k)
	}
	return func(s string) bool {
		for at, k := range all {
			found := patterns[at].FindStringSubmatch(s)
			if found == nil {
				continue
			}
			if len(found) == 1 {
				return true
			}
			least, greatest, step := immEdges(k)
			v, err := strconv.ParseInt(found[1], 10, 64)
			if err == nil && v >= least && v <= greatest && v%step == 0 {
				return true
			}
		}
		return false
	}
}
