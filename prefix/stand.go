package prefix

import (
	"cmp"
	"iter"
	"slices"

	"waywarden/api"
)

// Stands: P2.2.
func Stands(p, q api.Prefix) (api.PrefixRel, api.Errno) {
	if Check(p) != api.OK || Check(q) != api.OK {
		goto refused
	}
	// Each row is asked by which of both is longer.
	return [2][3]api.PrefixRel{
		{api.RelApart, api.RelApart, api.RelApart},
		{api.RelAround, api.RelSame, api.RelWithin},
	}[meet(p, q)][1+cmp.Compare(p.Len, q.Len)], api.OK
refused:
	return api.RelNone, api.ErrArg
}

// meet is 1 where an address is in both, and 0 else: in the longer one they all are, or none.
func meet(p, q api.Prefix) int {
	if Has(p, q.Addr) || Has(q, p.Addr) {
		return 1
	}
	return 0
}

// Order: P2.2.
func Order(p, q api.Prefix) int {
	return order{}.compare(p, q)
}

// order is how prefixes stand one behind the other, those that may not be as well.
type order struct{}

func (order) compare(p, q api.Prefix) int {
	return cmp.Or(cmp.Compare(p.Addr, q.Addr), cmp.Compare(p.Len, q.Len))
}

// Common: P2.2.
func Common(p, q api.Prefix) (common api.Prefix, e api.Errno) {
	if Check(p) != api.OK || Check(q) != api.OK {
		goto refused
	}
longer:
	for length, around := range Around(p) {
		if length > q.Len || !Has(around, q.Addr) {
			break longer
		}
		common = around
	}
	return common, api.OK
refused:
	return api.Prefix{}, api.ErrArg
}

// Around: P2.4.
func Around(p api.Prefix) iter.Seq2[int, api.Prefix] {
	return func(yield func(int, api.Prefix) bool) {
		if Check(p) != api.OK {
			return
		}
		w := walk{to: p}
		for yield(w.Len, w.Prefix) && w.Len < p.Len {
			w.grow()
		}
	}
}

// walk is a prefix under way to another one, which it is, or is around.
type walk struct {
	api.Prefix
	to api.Prefix
}

// grow takes one bit more of the one that it is under way to.
func (w *walk) grow() {
	w.Len++
	w.Addr |= api.Addr(Bit(w.to.Addr, w.Len-1)) << (most - w.Len)
}

// Sort: P2.2.
func Sort(l ...api.Prefix) []api.Prefix {
	return once(l, order{}.compare)
}

// once is a list of what stands in the one handed in, in order, each thing once.
func once[T comparable](l []T, compare func(T, T) int) []T {
	sorted := slices.Clone(l)
	slices.SortFunc(sorted, compare)
	return slices.Compact(sorted)
}
