package taint_test

import (
	"math"
	"slices"
	"testing"

	"fencepost/api"
	"fencepost/taint"
)

// P6.1: New, Check, Rising, Join, Same

func TestNew(t *testing.T) {
	n := taint.New()
	if !(sets{}).hold(n) || taint.Check(n) != api.OK || !taint.Same(n, api.Taint{}) {
		t.Errorf("New() = %v", n)
	}
	n.X[5], n.Way = []int{1}, []int{2}
	if again := taint.New(); !(sets{}).hold(again) {
		t.Errorf("New() = %v behind a change of another one", again)
	}
}

// rising are lists that rise.
func rising() [][]int {
	return [][]int{
		nil, {}, {0}, {1}, {7}, {math.MaxInt}, {0, 1}, {0, 7}, {3, 4}, {0, math.MaxInt}, {0, 1, 2, 3}, {4, 9, 4095, 4096, 1 << 32}, {math.MaxInt - 1, math.MaxInt},
	}
}

// crooked are lists that do not rise, have a number twice, or one below 0.
func crooked() [][]int {
	return [][]int{
		{-1}, {-2}, {math.MinInt}, {-1, 0}, {-1, 5}, {-2, -1}, {math.MinInt, math.MaxInt}, {0, -1}, {5, -1}, {3, 4, -1},
		{0, 0}, {5, 5}, {3, 3, 4}, {3, 4, 4}, {3, 4, 3}, {math.MaxInt, math.MaxInt},
		{1, 0}, {4, 3}, {1, 2, 0}, {2, 1, 3}, {1, 3, 2}, {math.MaxInt, 0}, {math.MaxInt, math.MinInt}, {1 << 32, 1}, {0, 1, 2, 3, 5, 4},
	}
}

func TestRising(t *testing.T) {
	for _, l := range rising() {
		if !taint.Rising(l) {
			t.Errorf("Rising(%v) is false", l)
		}
		if !taint.Rising(roomy(l)) {
			t.Errorf("Rising(%v) with room to spare is false", l)
		}
	}
	for _, l := range crooked() {
		if taint.Rising(l) {
			t.Errorf("Rising(%v) is true", l)
		}
	}
}

func TestRisingOfLongLists(t *testing.T) {
	l := make([]int, 1<<16)
	for at := range l {
		l[at] = 3 * at
	}
	if !taint.Rising(l) {
		t.Errorf("a long list doesn't rise")
	}
	for _, at := range []int{0, 1, 40000, len(l) - 1} {
		for _, other := range []int{-1, 3*at - 3, 3*at + 3} {
			was := l[at]
			l[at] = other
			// The last one may be greater.
			if want := at == len(l)-1 && other > was; taint.Rising(l) != want {
				t.Errorf("with %d at %d it is not %v that it rises", other, at, want)
			}
			l[at] = was
		}
	}
}

// broken answers taints that may not be.
func broken() []api.Taint {
	var l []api.Taint
	for _, c := range crooked() {
		for _, x := range []int{1, 5, 17, 31} {
			var r api.Taint
			r.X[x] = c
			l = append(l, r)
		}
		l = append(l, api.Taint{Way: c})
	}
	for _, c := range append(rising()[2:], crooked()...) {
		var r api.Taint
		r.X[0] = c
		l = append(l, r)
	}
	// The others may be.
	full := sets{x: tainted()[1].x, way: of(2, 3)}
	for x := range 32 {
		r := full.taint()
		r.X[x] = []int{3, 3}
		l = append(l, r)
	}
	r := full.taint()
	r.Way = []int{3, 2}
	return append(l, r)
}

func TestCheck(t *testing.T) {
	for _, s := range tainted() {
		if err := taint.Check(s.taint()); err != api.OK {
			t.Errorf("Check(%v) = %d", s.taint(), err)
		}
	}
	for _, l := range rising() {
		var r api.Taint
		for x := 1; x < 32; x++ {
			r.X[x] = l
		}
		r.X[0], r.Way = []int{}, l
		if err := taint.Check(r); err != api.OK {
			t.Errorf("Check(%v) = %d", r, err)
		}
	}
	for _, b := range broken() {
		if err := taint.Check(b); err != api.ErrArg {
			t.Errorf("Check(%v) = %d", b, err)
		}
	}
}

func TestJoin(t *testing.T) {
	for _, c := range []struct{ a, b, want []int }{
		{nil, nil, nil},
		{[]int{}, nil, nil},
		{nil, []int{0}, []int{0}},
		{[]int{3, 4}, []int{}, []int{3, 4}},
		{[]int{3}, []int{4}, []int{3, 4}},
		{[]int{1, 2}, []int{3, 4, 5}, []int{1, 2, 3, 4, 5}},
		{[]int{1, 3, 5}, []int{2, 4, 6}, []int{1, 2, 3, 4, 5, 6}},
		{[]int{1, 3, 5}, []int{3}, []int{1, 3, 5}},
		{[]int{1, 3, 5}, []int{1, 5}, []int{1, 3, 5}},
		{[]int{1, 3, 5}, []int{3, 5, 7}, []int{1, 3, 5, 7}},
		{[]int{1, 3, 5}, []int{1, 3, 5}, []int{1, 3, 5}},
		{[]int{0, 9}, []int{4}, []int{0, 4, 9}},
		{[]int{2}, []int{0, 1, 2, 3}, []int{0, 1, 2, 3}},
		{[]int{0, math.MaxInt}, []int{1 << 32, math.MaxInt}, []int{0, 1 << 32, math.MaxInt}},
	} {
		if got := taint.Join(c.a, c.b); !slices.Equal(got, c.want) {
			t.Errorf("Join(%v, %v) = %v, want %v", c.a, c.b, got, c.want)
		}
		if got := taint.Join(c.b, c.a); !slices.Equal(got, c.want) {
			t.Errorf("Join(%v, %v) = %v, want %v", c.b, c.a, got, c.want)
		}
	}
}

func TestJoinOfAllSmallLists(t *testing.T) {
	for a := range set(1 << 6) {
		for b := range set(1 << 6) {
			if got := taint.Join(roomy(a.list()), roomy(b.list())); !slices.Equal(got, (a | b).list()) {
				t.Errorf("Join(%v, %v) = %v", a.list(), b.list(), got)
			}
		}
	}
}

func TestJoinOfOneThatDoesNotRise(t *testing.T) {
	for _, c := range crooked() {
		for _, l := range append(rising(), c) {
			if got := taint.Join(c, l); len(got) > 0 {
				t.Errorf("Join(%v, %v) = %v", c, l, got)
			}
			if got := taint.Join(l, c); len(got) > 0 {
				t.Errorf("Join(%v, %v) = %v", l, c, got)
			}
		}
	}
}

func TestSame(t *testing.T) {
	for _, s := range tainted() {
		if a, b := s.taint(), s.taint(); !taint.Same(a, b) || !taint.Same(a, a) {
			t.Errorf("%v is not the same as it is", a)
		}
	}
	// A nil list and an empty one are the same.
	var a, b api.Taint
	for x := range b.X {
		b.X[x] = []int{}
	}
	b.Way = []int{}
	if !taint.Same(a, b) || !taint.Same(b, a) {
		t.Errorf("nil lists and empty ones are not the same")
	}
}

func TestSameOfOthers(t *testing.T) {
	base := tainted()[1]
	base.x[7], base.way = of(3, 5), of(3, 5)
	others := func(s set) []set { return []set{s ^ 1, s ^ of(4), s ^ of(63), s ^ of(3, 4)} }
	differ := func(s sets) {
		if taint.Same(base.taint(), s.taint()) || taint.Same(s.taint(), base.taint()) {
			t.Errorf("%v is the same as %v", s, base)
		}
	}
	for x := range base.x {
		for _, other := range others(base.x[x]) {
			s := base
			s.x[x] = other
			differ(s)
		}
	}
	for _, other := range append(others(base.way), 0, of(3), of(5), of(3, 5, 6)) {
		s := base
		s.way = other
		differ(s)
		s = base
		s.x[7] = other
		differ(s)
	}
	// What hangs on one register is not what hangs on another one, or on the way.
	s := base
	s.x[7], s.x[8] = base.x[8], base.x[7]^of(62)
	differ(s)
	differ(sets{x: base.x})
	differ(sets{way: base.way})
}
