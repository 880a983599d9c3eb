package sched

import (
	"iter"
	"slices"

	"gatehouse/api"
)

// Mixes goes over all orders in which tasks of so many steps may come.
func Mixes(steps ...int) iter.Seq[[]int] {
	if !mixable(steps) {
		return func(yield func([]int) bool) {}
	}
	counts := slices.Clone(steps) // steps may be a list of the caller's, who may change it later
	return func(yield func([]int) bool) {
		for order := range orders(counts) {
			if !yield(slices.Clone(order)) {
				return
			}
		}
	}
}

// mixable says whether there are few enough tasks and steps for a list. What is left is reckoned down, so that no sum passes the greatest int.
func mixable(steps []int) bool {
	if len(steps) > api.MaxTasks {
		return false
	}
	left := api.MaxPicks
	for _, n := range steps {
		if n > left {
			return false
		}
		left -= max(n, 0)
	}
	return true
}

// orders goes over all mixes in one list, which it changes from each to the next: whoever keeps one, or hands it on, takes a copy.
func orders(counts []int) iter.Seq[[]int] {
	return func(yield func([]int) bool) {
		list := first(counts)
		for more := true; more; more = advance(list) {
			if !yield(list) {
				return
			}
		}
	}
}

// first is the mix that is ahead of all others: the numbers rise.
func first(counts []int) []int {
	var list []int
	for i, n := range counts {
		list = append(list, slices.Repeat([]int{i}, max(n, 0))...)
	}
	return list
}

// advance makes a mix the next one in the order of lists; false, if it is the last.
func advance(list []int) bool {
	place := len(list) - 2 // the last place whose number can grow: what is behind it falls
	for place >= 0 && list[place] >= list[place+1] {
		place--
	}
	if place < 0 {
		return false
	}
	greater := len(list) - 1
	for list[greater] <= list[place] {
		greater--
	}
	list[place], list[greater] = list[greater], list[place]
	slices.Reverse(list[place+1:]) // it still falls; the least order is the rising one
	return true
}
