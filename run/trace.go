package run

import (
	"slices"

	"fencepost/api"
	"fencepost/event"
	"fencepost/hart"
)

// Same tells whether two traces are the same in all that they have.
func Same(a, b api.Trace) bool {
	return slices.EqualFunc(a.Events, b.Events, event.Same) &&
		slices.Equal(a.Outs, b.Outs) && slices.Equal(a.Marks, b.Marks) &&
		hart.Same(a.End, b.End) && a.Steps == b.Steps
}

// Cut answers a trace with its first so many events alone, and the marks that stand behind no more of them.
func Cut(t api.Trace, events int) api.Trace {
	many := min(max(events, 0), len(t.Events))
	cut := api.Trace{Outs: fresh(t.Outs), End: t.End, Steps: t.Steps}
	for _, e := range t.Events[:many] {
		e.Deps = api.Deps{Addr: fresh(e.Deps.Addr), Data: fresh(e.Deps.Data), Way: fresh(e.Deps.Way)}
		cut.Events = append(cut.Events, e)
	}
	for _, mark := range t.Marks {
		if mark.At <= many {
			cut.Marks = append(cut.Marks, mark)
		}
	}
	return cut
}

// fresh answers a list in new memory.
func fresh[T any](l []T) []T {
	return append([]T(nil), l...)
}
