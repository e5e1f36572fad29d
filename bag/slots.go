package bag

import (
	"slices"

	"homestead/api"
	"homestead/items"
)

// wrong tells whether no right bag has s: it is neither empty nor some of an item that a slot holds.
func wrong(s api.Slot) bool {
	return s != api.Slot{} && (s.N < 1 || s.N > items.Stack(s.Item))
}

// own is l in memory of its own.
func own(l []api.Slot) []api.Slot {
	return append([]api.Slot(nil), l...)
}

// put puts n of i into l, and answers how much there was no room for.
func put(l []api.Slot, i api.Item, n int) int {
	left := fill(l, i, n, func(s api.Slot) bool { return s.Item == i })
	return fill(l, i, left, func(s api.Slot) bool { return s.Item == api.Air })
}

// fill puts n of i into the slots that fills tells, from the first one on, and answers how much there was no room for.
func fill(l []api.Slot, i api.Item, n int, fills func(s api.Slot) bool) int {
	for at, s := range l {
		if n > 0 && fills(s) {
			some := min(n, items.Stack(i)-s.N)
			l[at] = api.Slot{Item: i, N: s.N + some}
			n -= some
		}
	}
	return n
}

// spend takes n of i, of which l has as much, from the last slot that has it on, towards the first.
func spend(l []api.Slot, i api.Item, n int) {
	for at, s := range slices.Backward(l) {
		if s.Item == i {
			some := min(n, s.N)
			l[at] = less(s, some)
			n -= some
		}
	}
}

// less is s less n; empty, if nothing is left.
func less(s api.Slot, n int) api.Slot {
	if s.N == n {
		return api.Slot{}
	}
	return api.Slot{Item: s.Item, N: s.N - n}
}
