package cand

import (
	"cmp"
	"slices"

	"fencepost/api"
	"fencepost/event"
)

// First answers what memory had at an address at first.
func First(c api.Cand, addr uint64) uint64 {
	if Check(c) != api.OK {
		return 0
	}
	return value(c.First, addr)
}

// Last answers what memory has at the end, where that is not 0.
func Last(c api.Cand) []api.Cell {
	all, may := look(c)
	if !may {
		return nil
	}
	met := stored(c.Order, all)
	var last []api.Cell
	for _, cell := range c.First {
		if _, is := met[cell.Addr]; !is && cell.Value != 0 {
			last = append(last, cell)
		}
	}
	for addr, value := range met {
		if value != 0 {
			last = append(last, api.Cell{Addr: addr, Value: value})
		}
	}
	slices.SortFunc(last, byAddr)
	return last
}

// stored answers of each address that is written what the last one in the order stored there.
func stored(order []int, all []api.Event) map[uint64]uint64 {
	met := map[uint64]uint64{}
	for _, n := range order {
		if e := all[n]; event.Writes(e) {
			met[e.Addr] = e.Store
		}
	}
	return met
}

// value answers what cells that rise have at an address, a nought where there is none.
func value(l []api.Cell, addr uint64) uint64 {
	at, is := slices.BinarySearchFunc(l, api.Cell{Addr: addr}, byAddr)
	if !is {
		return 0
	}
	return l[at].Value
}

func byAddr(a, b api.Cell) int {
	return cmp.Compare(a.Addr, b.Addr)
}
