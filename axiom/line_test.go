package axiom_test

import (
	"fmt"
	"math"
	"testing"

	"fencepost/api"
	"fencepost/axiom"
)

// P11.2: Line.

func TestLine(t *testing.T) {
	for _, x := range []struct {
		j    api.Judged
		want string
	}{
		{api.Judged{OK: true, A: -1, B: -1}, "ok"},
		{api.Judged{Why: api.WhyForm, A: -1, B: -1}, "form -1 -1"},
		{api.Judged{Why: api.WhyOrder, A: 0, B: 2}, "order 0 2"},
		{api.Judged{Why: api.WhyOrder, A: 7, B: 10}, "order 7 10"},
		{api.Judged{Why: api.WhyOrder, A: 99, B: 4095}, "order 99 4095"},
		{api.Judged{Why: api.WhyValue, A: 3, B: -1}, "value 3 -1"},
		{api.Judged{Why: api.WhyValue, A: 123, B: 4}, "value 123 4"},
		{api.Judged{Why: api.WhyValue, A: 4095, B: 1000}, "value 4095 1000"},
		{api.Judged{Why: api.WhyPair, A: 5, B: 9}, "pair 5 9"},
		{api.Judged{Why: api.WhyPair, A: 12, B: 345}, "pair 12 345"},
		// What no Judge answers.
		{api.Judged{OK: true}, "ok"},
		{api.Judged{OK: true, Why: api.WhyOrder, A: 1, B: 2}, "ok"},
		{api.Judged{OK: true, Why: 9, A: 1, B: 2}, "ok"},
		{api.Judged{}, "other 0 0"},
		{api.Judged{A: -1, B: -1}, "other -1 -1"},
		{api.Judged{Why: 9, A: -3, B: 12}, "other -3 12"},
		{api.Judged{Why: 5, A: 1, B: 2}, "other 1 2"},
		{api.Judged{Why: -1, A: 1, B: 2}, "other 1 2"},
		{api.Judged{Why: math.MinInt, A: math.MinInt, B: math.MinInt}, "other -9223372036854775808 -9223372036854775808"},
		{api.Judged{Why: math.MaxInt, A: 1, B: 2}, "other 1 2"},
		// None of these is a name's number, though a part of its bits is.
		{api.Judged{Why: 1<<8 + 1, A: 1, B: 2}, "other 1 2"},
		{api.Judged{Why: 1<<16 + 2, A: 1, B: 2}, "other 1 2"},
		{api.Judged{Why: 1<<32 + 3, A: 1, B: 2}, "other 1 2"},
		{api.Judged{Why: -api.WhyPair, A: 1, B: 2}, "other 1 2"},
		{api.Judged{Why: api.WhyForm, A: 3, B: 40}, "form 3 40"},
		{api.Judged{Why: api.WhyPair, A: -10, B: -4096}, "pair -10 -4096"},
		{api.Judged{Why: api.WhyOrder, A: math.MinInt, B: math.MinInt}, "order -9223372036854775808 -9223372036854775808"},
		{api.Judged{Why: api.WhyValue, A: math.MaxInt, B: math.MinInt}, "value 9223372036854775807 -9223372036854775808"},
	} {
		if got := axiom.Line(x.j); got != x.want {
			t.Errorf("Line(%+v) = %q, want %q", x.j, got, x.want)
		}
	}
}

func TestLinesOfMany(t *testing.T) {
	numbers := []int{math.MinInt, -4097, -11, -10, -9, -2, -1, 0, 1, 2, 8, 9, 10, 11, 19, 99, 100, 999, 1000, 4095, 4096, 1 << 32, math.MaxInt}
	names := map[int]string{1: "form", 2: "order", 3: "value", 4: "pair"}
	for why := -300; why <= 300; why++ {
		name, is := names[why]
		if !is {
			name = "other"
		}
		for _, a := range numbers {
			for _, b := range numbers {
				want := fmt.Sprintf("%s %d %d", name, a, b)
				if got := axiom.Line(api.Judged{Why: why, A: a, B: b}); got != want {
					t.Errorf("Line of why %d = %q, want %q", why, got, want)
				}
			}
		}
	}
}
