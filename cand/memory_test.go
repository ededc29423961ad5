package cand_test

import (
	"math"
	"slices"
	"testing"

	"fencepost/api"
	"fencepost/cand"
)

// P9.1: First; P9.2: Last; P9.3: what is last at an Addr is what its last one stored.

func TestFirst(t *testing.T) {
	c := api.Cand{First: at(0, 7, 8, 0, 24, 1<<63, 4096, 5, math.MaxUint64-7, 3), Harts: of(row{store(16, 9), store(0, 1), amo(4096, 5, 6)}), From: []int{-1, -1, -1}, Order: []int{0, 1, 2}}
	hold(t, c, true)
	for _, x := range []struct{ addr, want uint64 }{
		{0, 7}, {8, 0}, {24, 1 << 63}, {4096, 5}, {math.MaxUint64 - 7, 3},
		// Not told, though it is written; not told; no double's.
		{16, 0}, {32, 0}, {4104, 0}, {4088, 0}, {1 << 63, 0}, {1, 0}, {7, 0}, {4, 0}, {25, 0}, {4097, 0}, {math.MaxUint64, 0}, {math.MaxUint64 - 8, 0},
	} {
		if got := cand.First(c, x.addr); got != x.want {
			t.Errorf("First(%d) = %d, want %d", x.addr, got, x.want)
		}
	}
	c.First = nil
	c.From[2] = -1
	c.Harts[0][2].Load = 0
	for _, addr := range []uint64{0, 8, 16, 4096, math.MaxUint64} {
		if got := cand.First(c, addr); got != 0 {
			t.Errorf("First(%d) of none = %d", addr, got)
		}
	}
}

func TestFirstOfManyCells(t *testing.T) {
	c := api.Cand{Harts: make([][]api.Event, 1)}
	for n := range uint64(500) {
		c.First = append(c.First, api.Cell{Addr: 8 * n * n, Value: n})
	}
	for n, cell := range c.First {
		if got := cand.First(c, cell.Addr); got != uint64(n) {
			t.Errorf("First(%d) = %d", cell.Addr, got)
		}
		if got := cand.First(c, cell.Addr+16); n > 1 && got != 0 {
			t.Errorf("First(%d) = %d", cell.Addr+16, got)
		}
	}
	if got := cand.Last(c); !slices.Equal(got, c.First[1:]) {
		t.Errorf("Last = %v", got)
	}
}

func TestLast(t *testing.T) {
	for _, x := range []struct {
		what  string
		first []api.Cell
		harts [][]api.Event
		from  []int
		order []int
		want  []api.Cell
	}{
		{"nothing", nil, of(nil), nil, nil, nil},
		{"one store", nil, of(row{store(8, 1)}), []int{-1}, []int{0}, at(8, 1)},
		{"written twice", nil, of(row{store(8, 1), store(8, 2)}), []int{-1, -1}, []int{0, 1}, at(8, 2)},
		{"written twice, turned", nil, of(row{store(8, 1), store(8, 2)}), []int{-1, -1}, []int{1, 0}, at(8, 1)},
		{"by two harts", nil, of(row{store(8, 1)}, row{store(8, 2)}), []int{-1, -1}, []int{0, 1}, at(8, 2)},
		{"by two harts, turned", nil, of(row{store(8, 1)}, row{store(8, 2)}), []int{-1, -1}, []int{1, 0}, at(8, 1)},
		{"by an amo", at(8, 5), of(row{amo(8, 5, 6)}), []int{-1}, []int{0}, at(8, 6)},
		{"by an amo, then a store", at(8, 5), of(row{store(8, 7)}, row{amo(8, 5, 6)}), []int{-1, -1}, []int{1, 0}, at(8, 7)},
		{"by an sc", at(8, 5), of(row{lr(8, 5), sc(8, 6, 0)}), []int{-1, -1}, []int{0, 1}, at(8, 6)},
		{"by an sc ahead of its lr", at(8, 5), of(row{lr(8, 5), sc(8, 6, 0)}), []int{-1, -1}, []int{1, 0}, at(8, 6)},
		{"at first alone", at(8, 5), of(nil), nil, nil, at(8, 5)},
		{"at first alone, read", at(8, 5), of(row{load(8, 5), lr(8, 5), fence()}), []int{-1, -1, -1}, []int{1, 0}, at(8, 5)},
		{"at first, and elsewhere", at(8, 5, 24, 6), of(row{store(16, 1)}), []int{-1}, []int{0}, at(8, 5, 16, 1, 24, 6)},
		{"a nought at first", at(8, 0), of(nil), nil, nil, nil},
		{"a nought at first, then a store", at(8, 0), of(row{store(8, 3)}), []int{-1}, []int{0}, at(8, 3)},
		{"a store of nought over a value", at(8, 5), of(row{store(8, 0)}), []int{-1}, []int{0}, nil},
		{"a store of nought over a store", nil, of(row{store(8, 5), store(8, 0)}), []int{-1, -1}, []int{0, 1}, nil},
		{"a store over a store of nought", nil, of(row{store(8, 5), store(8, 0)}), []int{-1, -1}, []int{1, 0}, at(8, 5)},
		{"an amo's nought", at(0, 1, 8, 5, 16, 2), of(row{amo(8, 5, 0)}), []int{-1}, []int{0}, at(0, 1, 16, 2)},
		{"a store of nought where nothing was", nil, of(row{store(8, 0)}), []int{-1}, []int{0}, nil},
		{"written by nobody", nil, of(row{load(8, 0), fence()}), []int{-1, -1}, []int{0}, nil},
		{"at 0", nil, of(row{store(0, 4)}), []int{-1}, []int{0}, at(0, 4)},
		{"the same value", at(8, 5), of(row{store(8, 5)}), []int{-1}, []int{0}, at(8, 5)},
		{"falling", at(64, 1), of(row{store(1<<63, 1), store(32, 2), store(16, 3)}, row{store(24, 4), store(math.MaxUint64-7, 5)}), []int{-1, -1, -1, -1, -1}, []int{4, 0, 1, 3, 2}, at(16, 3, 24, 4, 32, 2, 64, 1, 1<<63, 1, math.MaxUint64-7, 5)},
	} {
		c := api.Cand{First: x.first, Harts: x.harts, From: x.from, Order: x.order}
		if got := cand.Last(c); !slices.Equal(got, x.want) {
			t.Errorf("%s: %v, want %v", x.what, got, x.want)
		}
		hold(t, c, true)
	}
}

func TestLastIsWhatTheLastOneStored(t *testing.T) {
	d := dice(7)
	met := 0
	for range 1500 {
		c := d.cand()
		then := map[uint64]uint64{}
		for _, cell := range c.First {
			then[cell.Addr] = cell.Value
		}
		all := plainAll(c)
		for _, n := range c.Order {
			if e := all[n]; plainWrites(e) {
				then[e.Addr] = e.Store
			}
		}
		last := cand.Last(c)
		for place, cell := range last {
			if cell.Value == 0 || cell.Value != then[cell.Addr] || place > 0 && last[place-1].Addr >= cell.Addr {
				t.Fatalf("Last(%+v) = %v", c, last)
			}
			delete(then, cell.Addr)
		}
		for addr, v := range then {
			if v != 0 {
				t.Fatalf("Last(%+v) = %v: it has nothing at %d", c, last, addr)
			}
			met++
		}
	}
	if met < 500 {
		t.Errorf("%d noughts were left out alone", met)
	}
}
