package cand

import (
	"slices"

	"fencepost/api"
)

// All answers all events by number.
func All(c api.Cand) []api.Event {
	all, _ := look(c)
	for n := range all {
		d := &all[n].Deps
		*d = api.Deps{Addr: fresh(d.Addr), Data: fresh(d.Data), Way: fresh(d.Way)}
	}
	return all
}

// Number answers the number of a hart's event.
func Number(c api.Cand, hart, at int) (int, api.Errno) {
	if err := Check(c); err != api.OK {
		return 0, err
	}
	if !within(hart, len(c.Harts)) || !within(at, len(c.Harts[hart])) {
		return 0, api.ErrNone
	}
	return length(c.Harts[:hart]) + at, api.OK
}

// Places answers the place in Order of each number, none of a fence.
func Places(c api.Cand) []int {
	all, may := look(c)
	if !may {
		return nil
	}
	places := slices.Repeat([]int{none}, len(all))
	for place, n := range c.Order {
		places[n] = place
	}
	return places
}

// counter answers a closure that is told rows, one behind the other, and carries the sum of their lengths: it answers how many events stand ahead of each row, which is its first one's number.
func counter() func(row []api.Event) int {
	sum := 0
	return func(row []api.Event) int {
		ahead := sum
		sum += len(row)
		return ahead
	}
}

// length answers how many events rows have together.
func length(rows [][]api.Event) int {
	ahead := counter()
	for _, row := range rows {
		ahead(row)
	}
	return ahead(nil)
}

// numbered answers the events of rows by number, with the lists that were handed in.
func numbered(rows [][]api.Event) []api.Event {
	all, ahead := make([]api.Event, length(rows)), counter()
	for _, row := range rows {
		copy(all[ahead(row):], row)
	}
	return all
}

// fresh answers a list in new memory.
func fresh(l []int) []int {
	return append([]int(nil), l...)
}
