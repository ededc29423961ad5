package litmus_test

import (
	"testing"

	"fencepost/api"
	"fencepost/litmus"
)

// P13.3

// holdFollows holds what follows of a test's outcomes, and tells whether the model comes to more than turns do.
func holdFollows(t *testing.T, l api.Litmus) bool {
	t.Helper()
	model, errM := litmus.Model(l)
	turns, errT := litmus.Turns(l)
	if errM != api.OK || errT != api.OK || len(turns) == 0 {
		t.Fatalf("%d, %d: %s", errM, errT, tell(l))
	}
	for _, one := range turns {
		if !litmus.Has(model, one) {
			t.Fatalf("turns come to %v, the model to %v alone: %s", one, model, tell(l))
		}
	}
	for _, outcomes := range [][][]uint64{model, turns} {
		if told(rising(outcomes)) != told(outcomes) {
			t.Fatalf("%v do not rise: %s", outcomes, tell(l))
		}
	}
	fenced, err := litmus.Fenced(l)
	if err != api.OK {
		return false
	}
	modelF, _ := litmus.Model(fenced)
	turnsF, _ := litmus.Turns(fenced)
	if told(modelF) != told(turns) || told(turnsF) != told(turns) {
		t.Fatalf("with fences %v, %v; without %v: %s", modelF, turnsF, turns, tell(l))
	}
	return len(model) > len(turns)
}

func TestWhatFollowsOfTheExamples(t *testing.T) {
	more := 0
	for _, name := range litmus.Names() {
		l, _ := litmus.Named(name)
		if holdFollows(t, l) {
			more++
		}
	}
	if more != 3 {
		t.Errorf("of %d the model comes to more", more)
	}
}

func TestWhatFollowsAtRandom(t *testing.T) {
	d, met, more := dice(9), 0, 0
	for range 250 {
		l := d.litmus(t, 6)
		if litmus.Check(l) != api.OK {
			continue
		}
		met++
		if holdFollows(t, l) {
			more++
		}
	}
	if met < 120 || more < 25 {
		t.Errorf("%d tests, of %d the model comes to more", met, more)
	}
}
