package litmus

import (
	"iter"
	"slices"
)

// orders yields each order of a list in which each one fits behind those that stand ahead of it. What is yielded holds till the next one is.
func orders[T any](l []T, fits func(ahead []T, next T) bool) iter.Seq[[]T] {
	return func(yield func([]T) bool) {
		permute(slices.Clone(l), 0, fits, yield)
	}
}

// permute yields each order of a list whose first so many stand already, and tells whether more are asked for. The list is then as it was.
func permute[T any](l []T, stand int, fits func(ahead []T, next T) bool, yield func([]T) bool) bool {
	if stand == len(l) {
		return yield(l)
	}
	for other := stand; other < len(l); other++ {
		if !fits(l[:stand], l[other]) {
			continue
		}
		l[stand], l[other] = l[other], l[stand]
		more := permute(l, stand+1, fits, yield)
		l[stand], l[other] = l[other], l[stand]
		if !more {
			return false
		}
	}
	return true
}

// choices yields each row that has one of each list. What is yielded holds till the next one is.
func choices[T any](lists [][]T) iter.Seq[[]T] {
	return func(yield func([]T) bool) {
		choose(lists, make([]T, 0, len(lists)), yield)
	}
}

// choose yields each row that begins with what was chosen, and tells whether more are asked for.
func choose[T any](lists [][]T, chosen []T, yield func([]T) bool) bool {
	if len(chosen) == len(lists) {
		return yield(chosen)
	}
	for _, one := range lists[len(chosen)] {
		if !choose(lists, append(chosen, one), yield) {
			return false
		}
	}
	return true
}
