package taint_test

import (
	"slices"
	"testing"

	"fencepost/api"
	"fencepost/insn"
	"fencepost/taint"
)

// P6.3

func TestWhatIsNotReadDoesNotMatter(t *testing.T) {
	for s, m := range all() {
		if m.event == 0 {
			continue
		}
		reads, x := insn.Reads(m.insn), insn.Writes(m.insn)
		other := s
		other.way ^= of(50, 51)
		for r := 1; r < 32; r++ {
			if !slices.Contains(reads, r) {
				other.x[r] ^= of(52, 53, 3)
			}
		}
		a, on, _ := taint.Step(s.taint(), m.insn, m.event)
		b, also, _ := taint.Step(other.taint(), m.insn, m.event)
		if x > 0 && !slices.Equal(a.X[x], b.X[x]) {
			t.Fatalf("%s writes %v, or %v", tell(m.insn), a.X[x], b.X[x])
		}
		if !slices.Equal(on.Addr, also.Addr) || !slices.Equal(on.Data, also.Data) {
			t.Fatalf("%s hangs on %v, or %v", tell(m.insn), on, also)
		}
		// What is not written stays.
		for r := range 32 {
			if r != x && !(slices.Equal(a.X[r], s.x[r].list()) && slices.Equal(b.X[r], other.x[r].list())) {
				t.Fatalf("%s changes register %d", tell(m.insn), r)
			}
		}
	}
}

func TestWhatIsReadMatters(t *testing.T) {
	s := some()
	i := read(t, "add x7, x5, x6")
	for _, x := range []int{5, 6} {
		other := s
		other.x[x] |= of(55)
		after, _, _ := taint.Step(other.taint(), i, -1)
		if !slices.Equal(after.X[7], of(3, 4, 7, 55).list()) {
			t.Errorf("%s: register %d doesn't matter: %v", tell(i), x, after.X[7])
		}
	}
}

func TestTheWayOnlyGrows(t *testing.T) {
	for s, m := range all() {
		after, deps, _ := taint.Step(s.taint(), m.insn, m.event)
		for _, event := range s.way.list() {
			if !slices.Contains(after.Way, event) {
				t.Fatalf("%s: the way was %v, is %v", tell(m.insn), s.way.list(), after.Way)
			}
		}
		if !slices.Equal(deps.Way, s.way.list()) {
			t.Fatalf("%s hangs by the way on %v, not on %v", tell(m.insn), deps.Way, s.way.list())
		}
	}
}

// manySteps is how many steps a long row of them has.
const manySteps = 4000

func TestLongRowsOfSteps(t *testing.T) {
	l := insns()
	d := dice(11)
	for range 5 {
		was, now := sets{}, taint.New()
		for range manySteps {
			i, event := l[d.next()%uint64(len(l))], int(d.next()%65)-1
			then, on := plain(was, i, event)
			after, deps, err := taint.Step(now, i, event)
			if err != api.OK || !then.hold(after) || !on.hold(deps) || was.way&^then.way != 0 {
				t.Fatalf("%s, event %d, of %v = %v, %v, %d", tell(i), event, was, after, deps, err)
			}
			was, now = then, after
		}
	}
}

// Rule 3: an answer is new memory, what was handed in stays as it was.

// lists answers all lists of a taint and of deps.
func lists(t *api.Taint, d *api.Deps) []*[]int {
	var l []*[]int
	for x := range t.X {
		l = append(l, &t.X[x])
	}
	return append(l, &t.Way, &d.Addr, &d.Data, &d.Way)
}

// whole answers copies of lists, with their room to spare.
func whole(l []*[]int) [][]int {
	var c [][]int
	for _, p := range l {
		c = append(c, slices.Clone((*p)[:cap(*p)]))
	}
	return c
}

// holdApart tells whether nothing that is written into one of these lists, or into its room to spare, is to be seen in another one.
func holdApart(t *testing.T, what string, answered, handed []*[]int) {
	t.Helper()
	every := append(slices.Clone(answered), handed...)
	for at, p := range answered {
		before := whole(every)
		room := (*p)[:cap(*p)]
		for n := range room {
			room[n] = -77
		}
		for other, now := range whole(every) {
			if other != at && !slices.Equal(now, before[other]) {
				t.Fatalf("%s: list %d of the answer shares memory with list %d", what, at, other)
			}
		}
		copy(room, before[at])
	}
}

// oneMemory answers a taint whose lists are all parts of one list, the empty ones too.
func oneMemory() api.Taint {
	l := []int{1, 2, 3, 4, 5, 6, 7}
	var t api.Taint
	for x := 1; x < 32; x++ {
		t.X[x] = l[x%3 : x%8%5+x%3]
	}
	t.X[0], t.Way = l[:0], l[1:5]
	return t
}

func TestStepSharesNoMemory(t *testing.T) {
	l := slices.Concat(right(t), []api.Insn{read(t, "add x7, x5, x6"), read(t, "add x5, x5, x0"), read(t, "sd x6, 0(x5)"), read(t, "amoadd.d x7, x6, (x5)"), read(t, "bne x5, x6, 8"), read(t, "jalr x5, 0(x6)")})
	for _, before := range []api.Taint{{}, oneMemory(), some().taint(), tainted()[1].taint()} {
		for at, i := range l {
			var none api.Deps
			in := lists(&before, &none)
			was := whole(in)
			after, deps, err := taint.Step(before, i, at%30-1)
			if err != api.OK {
				t.Fatalf("%s of %v: %d", tell(i), before, err)
			}
			if now := whole(in); !slices.EqualFunc(was, now, slices.Equal[[]int]) {
				t.Fatalf("%s changed what was handed in", tell(i))
			}
			holdApart(t, tell(i), lists(&after, &deps), in)
		}
	}
}

func TestWhatIsHandedInIsNotKept(t *testing.T) {
	for _, i := range right(t) {
		before := some().taint()
		after, deps, _ := taint.Step(before, i, 20)
		var none api.Deps
		for _, p := range lists(&before, &none) {
			for n := range *p {
				(*p)[n] = -77
			}
		}
		want, on := plain(some(), i, 20)
		if !want.hold(after) || !on.hold(deps) {
			t.Errorf("%s: the answer changed: %v, %v", tell(i), after, deps)
		}
	}
}

func TestJoinSharesNoMemory(t *testing.T) {
	for a := range set(1 << 4) {
		for b := range set(1 << 4) {
			x, y := roomy(a.list()), roomy(b.list())
			in := []*[]int{&x, &y}
			was := whole(in)
			got := taint.Join(x, y)
			if now := whole(in); !slices.EqualFunc(was, now, slices.Equal[[]int]) {
				t.Fatalf("Join(%v, %v) changed what was handed in", x, y)
			}
			holdApart(t, "Join", []*[]int{&got}, in)
			// The same one twice.
			got = taint.Join(x, x)
			if !slices.Equal(got, a.list()) {
				t.Errorf("Join of %v twice = %v", x, got)
			}
			holdApart(t, "Join of one twice", []*[]int{&got}, in)
		}
	}
}

func TestQuestionsChangeNothing(t *testing.T) {
	for _, s := range tainted() {
		a, b := s.taint(), some().taint()
		var none api.Deps
		in := append(lists(&a, &none), lists(&b, &none)...)
		was := whole(in)
		taint.Check(a)
		taint.Same(a, b)
		taint.Rising(a.X[5])
		if now := whole(in); !slices.EqualFunc(was, now, slices.Equal[[]int]) {
			t.Errorf("asked of %v, it changed", s)
		}
	}
}
