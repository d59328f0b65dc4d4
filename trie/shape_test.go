package trie_test

import (
	"fmt"
	"slices"
	"testing"

	"waywarden/api"
	"waywarden/trie"
)

// P6.3
func TestNodesAndDepth(t *testing.T) {
	net := func(a api.Addr, n int) api.Prefix { return api.Prefix{Addr: a, Len: n} }
	rows := []struct {
		l            []api.Prefix
		nodes, depth int
	}{
		{nil, 0, 0},
		{[]api.Prefix{net(0, 0)}, 1, 1},
		{[]api.Prefix{net(0x0a000000, 8)}, 1, 1},
		{[]api.Prefix{net(0xffffffff, 32)}, 1, 1},
		{[]api.Prefix{net(0x0a000000, 8), net(0x0a000000, 9)}, 2, 2},
		{[]api.Prefix{net(0x0a000000, 8), net(0x0a000000, 32)}, 2, 2},
		{[]api.Prefix{net(0x0a000000, 8), net(0x0a010000, 16), net(0x0a020000, 16)}, 4, 3},
		{[]api.Prefix{net(0x0a010000, 16), net(0x0a020000, 16)}, 3, 2},
		{[]api.Prefix{net(0x0a010000, 16), net(0x0a020000, 16), net(0x0a000000, 14)}, 3, 2},
		{[]api.Prefix{net(0, 32), net(0x80000000, 32)}, 3, 2},
		{[]api.Prefix{net(0, 32), net(0x80000000, 32), net(0, 0)}, 3, 2},
		{[]api.Prefix{net(0, 32), net(1, 32), net(2, 32), net(3, 32)}, 7, 3},
		{[]api.Prefix{net(0, 32), net(1, 32), net(3, 32)}, 5, 3},
		{[]api.Prefix{net(0, 1), net(0x80000000, 1)}, 3, 2},
		{[]api.Prefix{net(0, 2), net(0x40000000, 2), net(0x80000000, 1)}, 5, 3},
		{[]api.Prefix{net(0, 0), net(0, 1), net(0, 2), net(0, 3)}, 4, 4},
	}
	for _, r := range rows {
		for range r.l {
			x := trie.New()
			for i, p := range r.l {
				x.Put(p, i)
			}
			if x.Len() != len(r.l) || x.Nodes() != r.nodes || x.Depth() != r.depth {
				t.Errorf("%v: Len %d, Nodes %d, Depth %d, want %d, %d", r.l, x.Len(), x.Nodes(), x.Depth(), r.nodes, r.depth)
			}
			r.l = append(slices.Clone(r.l[1:]), r.l[0])
		}
	}
}

// P6.5: of n prefixes there are at most 2n - 1 nodes, and just so many where no prefix is around another one or their forks; the depth is 33 where it can be.
func TestBounds(t *testing.T) {
	apart := trie.New()
	for i := range api.MaxKeys {
		apart.Put(api.Prefix{Addr: api.Addr(i) << 9, Len: 32}, i)
		if apart.Nodes() != 2*(i+1)-1 {
			t.Errorf("%d prefixes apart: %d nodes", i+1, apart.Nodes())
		}
	}
	if apart.Depth() != 10 {
		t.Errorf("512 prefixes apart: Depth %d", apart.Depth())
	}
	for _, a := range []api.Addr{0, 0xffffffff, 0x0a010203, 0xaaaaaaaa} {
		chain := trie.New()
		for n := range 33 {
			chain.Put(made(digits(a)[:n]), n)
			if chain.Nodes() != n+1 || chain.Depth() != n+1 {
				t.Errorf("a chain of %d: %d nodes, Depth %d", n+1, chain.Nodes(), chain.Depth())
			}
		}
		// the same depth by forks alone
		forks := trie.New()
		forks.Put(api.Prefix{Addr: a, Len: 32}, 0)
		for n := range 32 {
			forks.Put(made(digits(a ^ 1<<n)[:32-n]), n)
		}
		if forks.Len() != 33 || forks.Nodes() != 65 || forks.Depth() != 33 {
			t.Errorf("forks: Len %d, Nodes %d, Depth %d", forks.Len(), forks.Nodes(), forks.Depth())
		}
	}
	x := trie.New()
	for i, p := range many(api.MaxKeys) {
		x.Put(p, i)
		if n := x.Nodes(); n < i+1 || n > 2*(i+1)-1 || x.Depth() > 33 {
			t.Errorf("%d prefixes: %d nodes, Depth %d", i+1, n, x.Depth())
		}
	}
}

// P6.5: in which order prefixes came and went makes no difference.
func TestOrderMakesNoDifference(t *testing.T) {
	all := some()
	keep := model{}
	for i, p := range all {
		if i%3 == 0 {
			keep[p] = i
		}
	}
	plain := put(t, keep.from(api.Prefix{})...)
	for step := 1; step < len(all); step += 10 {
		x := trie.New()
		// All come in another order, with other values; those that are not kept go, in another order again.
		for i := range all {
			x.Put(all[i*step%len(all)], -1)
			x.Put(all[(len(all)-1)*i%len(all)], -2)
		}
		for i := range all {
			p := all[(i*7+step)%len(all)]
			if _, is := keep[p]; !is {
				x.Take(p)
			}
		}
		for p := range keep {
			x.Put(p, keep[p])
		}
		for _, p := range all {
			if _, is := keep[p]; !is {
				x.Take(p)
			}
		}
		check(t, x, keep, fmt.Sprint("by steps of ", step))
		if !trie.Same(x, plain) || !trie.Same(plain, x) {
			t.Errorf("by steps of %d it is another one", step)
		}
		for _, p := range all {
			checkWay(t, x, keep, p)
		}
	}
}

// P6.4
func TestCopy(t *testing.T) {
	x, m := network(t)
	for _, p := range some() {
		y := x.Copy()
		if y == nil || y == x || !trie.Same(x, y) {
			t.Fatal("Copy is none, or the same one, or another one")
		}
		check(t, y, m, "a copy")
		// The copy goes on apart.
		n := model{}
		for _, r := range m.from(api.Prefix{}) {
			n[r.p] = r.val
		}
		y.Put(p, 50)
		n[p] = 50
		check(t, y, n, "a copy with one more")
		check(t, x, m, "one whose copy has one more")
		for q := range m {
			y.Take(q)
			delete(n, q)
		}
		check(t, y, n, "a copy of which all is taken")
		check(t, x, m, "one of whose copy all is taken")
		// And so does the one that was copied.
		z := x.Copy()
		x.Put(p, 60)
		check(t, z, m, "the copy of one that changed")
		x.Take(p)
		if val, has := m[p]; has {
			x.Put(p, val)
		}
		check(t, z, m, "the copy of one that changed back")
	}
	c := trie.New().Copy()
	if c == nil {
		t.Fatal("a trie of none has no copy")
	}
	check(t, c, model{}, "a copy of a trie of none")
	if _, _, e := c.Put(api.Prefix{}, 1); e != api.OK {
		t.Errorf("a copy of a trie of none takes none: %d", e)
	}
}

// P6.4: a copy has the bound, too.
func TestCopyOfAFullOne(t *testing.T) {
	all := many(api.MaxKeys)
	x := trie.New()
	for i, p := range all {
		x.Put(p, i)
	}
	y := x.Copy()
	if _, _, e := y.Put(api.Prefix{}, 1); e != api.ErrLong {
		t.Errorf("Put into a full copy: %d", e)
	}
	y.Take(all[0])
	if _, _, e := y.Put(api.Prefix{}, 1); e != api.OK {
		t.Errorf("Put into a copy with room: %d", e)
	}
	if _, _, e := x.Put(api.Prefix{}, 1); e != api.ErrLong {
		t.Errorf("Put into the full one: %d", e)
	}
}

// P6.4
func TestSame(t *testing.T) {
	p, q, r := api.Prefix{Addr: 0x0a000000, Len: 8}, api.Prefix{Addr: 0x0a010000, Len: 16}, api.Prefix{Addr: 0x0a020000, Len: 16}
	lists := [][]row{
		{},
		{{p, 0}},
		{{p, 1}},
		{{q, 0}},
		{{q, 1}},
		{{api.Prefix{}, 0}},
		{{p, 1}, {q, 2}},
		{{p, 2}, {q, 1}},
		{{p, 1}, {q, 0}},
		{{p, 0}, {q, 0}},
		{{p, 1}, {r, 2}},
		{{q, 1}, {r, 2}},
		{{p, 1}, {q, 2}, {r, 3}},
		{{p, 1}, {q, 2}, {r, 4}},
		{{p, 1}, {q, 2}, {api.Prefix{Addr: 0x0a020000, Len: 17}, 3}},
		{{api.Prefix{Addr: 0x0a000000, Len: 14}, 0}, {q, 1}, {r, 2}},
		{{api.Prefix{Addr: 0x0a000000, Len: 9}, 1}},
		{{p, -1}},
		{{p, 1 << 32}},
		{{p, 1<<32 + 1}},
	}
	for i := range lists {
		for j := range lists {
			x, y := put(t, lists[i]...), put(t, lists[j]...)
			if got := trie.Same(x, y); got != (i == j) {
				t.Errorf("Same of %v and %v = %t", lists[i], lists[j], got)
			}
		}
		x := put(t, lists[i]...)
		if !trie.Same(x, x) {
			t.Errorf("%v is not the same as itself", lists[i])
		}
		backward := slices.Clone(lists[i])
		slices.Reverse(backward)
		if !trie.Same(x, put(t, backward...)) {
			t.Errorf("%v is not the same as when it is put in backward", lists[i])
		}
		// what came and went between
		other := api.Prefix{Addr: 0x0a030000, Len: 16}
		x.Put(other, 9)
		if trie.Same(x, put(t, lists[i]...)) {
			t.Errorf("%v is the same as with one more", lists[i])
		}
		x.Take(other)
		if !trie.Same(x, put(t, lists[i]...)) {
			t.Errorf("%v is not the same behind one that came and went", lists[i])
		}
	}
}
