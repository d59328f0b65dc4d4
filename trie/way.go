package trie

import (
	"iter"
	"slices"

	"waywarden/api"
	"waywarden/prefix"
)

// whole is the Len of a prefix that has one address.
const whole = 32

// down goes over the places on the way to p: the top one, then the one beneath each node that p is within. The last one is that of p's node, or where that would be put in.
func (t *Trie) down(p api.Prefix) iter.Seq[**node] {
	return func(yield func(**node) bool) {
		if t.may(p) != api.OK {
			return
		}
		at := &t.top
		for yield(at) && *at != nil && (*at).stands(p) == api.RelAround {
			at = (*at).beneath(p)
		}
	}
}

// above are the nodes with a value that p is, or is within, by rising Len.
func (t *Trie) above(p api.Prefix) []*node {
	var l []*node
way:
	for at := range t.down(p) {
		n := *at
		switch {
		case n == nil || !n.holds(p):
			break way
		case !n.has:
			continue way
		}
		l = append(l, n)
	}
	return l
}

// Get: P6.2.
func (t *Trie) Get(p api.Prefix) (int, bool) {
	for _, n := range t.above(p) {
		if n.Prefix == p {
			return n.val, true
		}
	}
	return 0, false
}

// Find: P6.2.
func (t *Trie) Find(a api.Addr) (p api.Prefix, val int, is bool) {
	for _, n := range t.above(api.Prefix{Addr: a, Len: whole}) {
		p, val, is = n.Prefix, n.val, true
	}
	return p, val, is
}

// Above: P6.2.
func (t *Trie) Above(p api.Prefix) iter.Seq2[api.Prefix, int] {
	var l []tell
	for _, n := range t.above(p) {
		l = append(l, n.tell)
	}
	return told(l...)
}

// From: P6.3.
func (t *Trie) From(p api.Prefix) iter.Seq2[api.Prefix, int] {
	return told(fold(t.first(), func(n node, below ...[]tell) []tell {
		var l []tell
		if n.has && prefix.Order(n.Prefix, p) >= 0 {
			l = append(l, n.tell)
		}
		return append(l, slices.Concat(below...)...)
	})...)
}

// tell hands a prefix and its value on, and is whether more is asked for.
type tell func(yield func(api.Prefix, int) bool) bool

// told goes over what is told.
func told(l ...tell) iter.Seq2[api.Prefix, int] {
	return func(yield func(api.Prefix, int) bool) {
		for _, t := range l {
			if !t(yield) {
				return
			}
		}
	}
}
