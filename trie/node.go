package trie

import (
	"cmp"
	"slices"

	"waywarden/api"
	"waywarden/prefix"
)

// node is a prefix that has a value, or that is what two such have in common.
type node struct {
	api.Prefix
	has   bool
	val   int
	below [2]*node // by the first bit behind the prefix
}

func (n *node) set(val int) {
	n.has, n.val = true, val
}

// stands is how it stands to p.
func (n *node) stands(p api.Prefix) api.PrefixRel {
	rel, _ := prefix.Stands(n.Prefix, p)
	return rel
}

// holds is whether p is it, or is within it.
func (n *node) holds(p api.Prefix) bool {
	rel := n.stands(p)
	return rel == api.RelSame || rel == api.RelAround
}

// beneath is the place of a prefix that is within this one.
func (n *node) beneath(p api.Prefix) **node {
	return &n.below[prefix.Bit(p.Addr, n.Len)]
}

// toward is the node that stands in the place of n where p is put in: p's own, n, or what both have in common, with n beneath it.
func toward(n *node, p api.Prefix) *node {
	if n == nil {
		return &node{Prefix: p}
	}
	common, _ := prefix.Common(n.Prefix, p)
	if common == n.Prefix {
		return n
	}
	fork := &node{Prefix: common}
	*fork.beneath(n.Prefix) = n
	return fork
}

// needed is the node that stands in the place of n: n, if it has a value or two nodes beneath, else the one beneath, if there is one.
func (n *node) needed() *node {
	if n.has || n.below[0] != nil && n.below[1] != nil {
		return n
	}
	return cmp.Or(n.below[:]...)
}

// fold is what a node makes of what the two beneath it make of theirs; where there is no node, that is zero.
func fold[T any](n *node, of func(n node, below ...T) T) T {
	var all func(*node) T
	all = func(n *node) (none T) {
		if n == nil {
			return none
		}
		return of(*n, all(n.below[0]), all(n.below[1]))
	}
	return all(n)
}

func (n node) count(below ...int) int {
	many := 1
	for _, b := range below {
		many += b
	}
	return many
}

func (n node) depth(below ...int) int {
	return 1 + slices.Max(below)
}

func (n node) copied(below ...*node) *node {
	copy(n.below[:], below)
	return &n
}

// tell hands the prefix and its value on. As a method value it holds its own copy of the node: what becomes of the node behind that is not told.
func (n node) tell(yield func(api.Prefix, int) bool) bool {
	return yield(n.Prefix, n.val)
}
