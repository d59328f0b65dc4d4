package trie_test

import (
	"fmt"
	"iter"
	"maps"
	"math"
	"slices"
	"strings"
	"testing"

	"waywarden/api"
	"waywarden/trie"
)

// row is a prefix and its value.
type row struct {
	p   api.Prefix
	val int
}

// digits are an address's bits, the highest one first.
func digits(a api.Addr) string {
	return fmt.Sprintf("%032b", uint32(a))
}

// first are the bits that count in a prefix that may be.
func first(p api.Prefix) string {
	return digits(p.Addr)[:p.Len]
}

// made is the prefix with these first bits.
func made(bits string) api.Prefix {
	var a api.Addr
	for i := range bits {
		a |= api.Addr(bits[i]-'0') << (31 - i)
	}
	return api.Prefix{Addr: a, Len: len(bits)}
}

// byOrder is how prefixes stand one behind the other, written apart from the program.
func byOrder(p, q api.Prefix) int {
	switch {
	case p.Addr < q.Addr || p.Addr == q.Addr && p.Len < q.Len:
		return -1
	case p == q:
		return 0
	}
	return 1
}

// model is what a trie has, as a map; all that a trie tells is asked of it by going through it.
type model map[api.Prefix]int

func (m model) from(p api.Prefix) []row {
	var l []row
	for _, q := range slices.SortedFunc(maps.Keys(m), byOrder) {
		if byOrder(q, p) >= 0 {
			l = append(l, row{q, m[q]})
		}
	}
	return l
}

func (m model) above(p api.Prefix) []row {
	var l []row
	for n := 0; n <= p.Len; n++ {
		q := made(first(p)[:n])
		if val, has := m[q]; has {
			l = append(l, row{q, val})
		}
	}
	return l
}

// nodes are the prefixes' bits, and what each two of them have in common.
func (m model) nodes() map[string]bool {
	all := map[string]bool{}
	for p := range m {
		for q := range m {
			a, b, n := first(p), first(q), 0
			for n < len(a) && n < len(b) && a[n] == b[n] {
				n++
			}
			all[a[:n]] = true
		}
	}
	return all
}

func (m model) depth() int {
	all, most := m.nodes(), 0
	for a := range all {
		deep := 0
		for n := range len(a) + 1 {
			if all[a[:n]] {
				deep++
			}
		}
		most = max(most, deep)
	}
	return most
}

func rowsOf(s iter.Seq2[api.Prefix, int]) []row {
	var l []row
	for p, val := range s {
		l = append(l, row{p, val})
	}
	return l
}

// put is a trie with these, in this order.
func put(t *testing.T, l ...row) *trie.Trie {
	t.Helper()
	x := trie.New()
	for _, r := range l {
		if _, _, e := x.Put(r.p, r.val); e != api.OK {
			t.Fatalf("Put(%v): %d", r.p, e)
		}
	}
	return x
}

// some are prefixes that may be, of each Len, many around others.
func some() []api.Prefix {
	seen := map[api.Prefix]bool{}
	for n := range 4 {
		for i := range 1 << n {
			seen[api.Prefix{Addr: api.Addr(i) << (32 - n), Len: n}] = true
		}
	}
	for _, a := range []api.Addr{0, 1, 0x0a000107, 0x0a010000, 0x80000000, 0x55555555, 0xfffffffe, 0xffffffff} {
		for n := range 33 {
			seen[made(digits(a)[:n])] = true
		}
	}
	return slices.SortedFunc(maps.Keys(seen), byOrder)
}

// wrong are prefixes that may not be, those among them that come round to a Len that may be.
func wrong() []api.Prefix {
	l := []api.Prefix{{Addr: 0x0a000001, Len: 8}, {Addr: 1, Len: 0}, {Addr: 1, Len: 31}, {Addr: 0x80000000, Len: 0}, {Addr: 0xffffffff, Len: 31}, {Addr: 0x00800000, Len: 8}, {Addr: 0x01000000, Len: 7}}
	for _, n := range []int{math.MinInt, math.MinInt + 8, -1 << 32, -33, -32, -8, -1, 33, 34, 40, 63, 64, 255, 256, 264, 1<<31 - 1, 1 << 31, 1 << 32, 1<<32 + 8, 1<<62 + 8, math.MaxInt} {
		l = append(l, api.Prefix{Len: n}, api.Prefix{Addr: 0x0a000000, Len: n}, api.Prefix{Addr: 0xffffffff, Len: n})
	}
	return l
}

// nones are tries that are none: a nil one, and one that no call made.
func nones() []*trie.Trie {
	return []*trie.Trie{nil, {}, new(trie.Trie)}
}

// many are so many prefixes that may be, no two the same.
func many(n int) []api.Prefix {
	seen := map[api.Prefix]bool{}
	for i := 0; len(seen) < n; i++ {
		a := api.Addr(i+1) * 2654435761
		seen[made(digits(a)[:8+i%25])] = true
	}
	return slices.SortedFunc(maps.Keys(seen), byOrder)
}

// check holds all that a trie tells of itself against the model.
func check(t *testing.T, x *trie.Trie, m model, said string) {
	t.Helper()
	if got := x.Len(); got != len(m) {
		t.Errorf("%s: Len %d, want %d", said, got, len(m))
	}
	if got, want := x.Nodes(), len(m.nodes()); got != want {
		t.Errorf("%s: Nodes %d, want %d", said, got, want)
	}
	if got, want := x.Depth(), m.depth(); got != want {
		t.Errorf("%s: Depth %d, want %d", said, got, want)
	}
	if got, want := rowsOf(x.From(api.Prefix{})), m.from(api.Prefix{}); !slices.Equal(got, want) {
		t.Errorf("%s: From tells %v, want %v", said, got, want)
	}
	for p, val := range m {
		if got, has := x.Get(p); got != val || !has {
			t.Errorf("%s: Get(%v) = %d, %t, want %d", said, p, got, has, val)
		}
	}
}

// checkWay holds what a trie tells of a prefix that may be against the model.
func checkWay(t *testing.T, x *trie.Trie, m model, p api.Prefix) {
	t.Helper()
	val, has := m[p]
	if got, is := x.Get(p); got != val || is != has {
		t.Errorf("Get(%v) = %d, %t, want %d, %t", p, got, is, val, has)
	}
	want := m.above(p)
	if got := rowsOf(x.Above(p)); !slices.Equal(got, want) {
		t.Errorf("Above(%v) tells %v, want %v", p, got, want)
	}
	// The longest one that has the address is the last one of those that it is within.
	var last row
	hosts := m.above(api.Prefix{Addr: p.Addr, Len: 32})
	if len(hosts) > 0 {
		last = hosts[len(hosts)-1]
	}
	if q, val, is := x.Find(p.Addr); (row{q, val}) != last || is != (len(hosts) > 0) {
		t.Errorf("Find(%#x) = %v, %d, %t, want %v", p.Addr, q, val, is, last)
	}
}

// P6.1
func TestNew(t *testing.T) {
	x, y := trie.New(), trie.New()
	if x == nil || y == nil || x == y {
		t.Fatal("New makes none, or one twice")
	}
	check(t, x, model{}, "a new one")
	for _, p := range some() {
		checkWay(t, x, model{}, p)
		if old, had, e := x.Take(p); old != 0 || had || e != api.OK {
			t.Errorf("Take(%v) of a new one: %d, %t, %d", p, old, had, e)
		}
	}
	x.Put(api.Prefix{}, 1)
	check(t, y, model{}, "another new one")
}

// P6.1
func TestPutAndTake(t *testing.T) {
	x, p, q := trie.New(), api.Prefix{Addr: 0x0a000000, Len: 8}, api.Prefix{Addr: 0x0a000000, Len: 9}
	rows := []struct {
		take bool
		p    api.Prefix
		val  int
		old  int
		had  bool
		many int
	}{
		{false, p, 7, 0, false, 1},
		{false, p, 7, 7, true, 1},
		{false, p, -3, 7, true, 1},
		{false, p, 0, -3, true, 1},
		{false, p, math.MinInt, 0, true, 1},
		{false, q, math.MaxInt, 0, false, 2},
		{false, p, 5, math.MinInt, true, 2},
		{true, p, 0, 5, true, 1},
		{true, p, 0, 0, false, 1},
		{false, p, 0, 0, false, 2},
		{true, p, 0, 0, true, 1},
		{true, api.Prefix{}, 0, 0, false, 1},
		{true, api.Prefix{Addr: 0x0a000000, Len: 32}, 0, 0, false, 1},
		{false, q, 1, math.MaxInt, true, 1},
		{true, q, 0, 1, true, 0},
		{true, q, 0, 0, false, 0},
		{false, q, 2, 0, false, 1},
	}
	for i, r := range rows {
		var old int
		var had bool
		var e api.Errno
		if r.take {
			old, had, e = x.Take(r.p)
		} else {
			old, had, e = x.Put(r.p, r.val)
		}
		if old != r.old || had != r.had || e != api.OK || x.Len() != r.many {
			t.Errorf("%d: %d, %t, %d, Len %d, want %d, %t, Len %d", i, old, had, e, x.Len(), r.old, r.had, r.many)
		}
	}
}

// P6.1: a prefix that may not be is refused, and nothing is changed.
func TestPutAndTakeRefuse(t *testing.T) {
	m := model{{Addr: 0x0a000000, Len: 8}: 1, {}: 2, {Addr: 0xffffffff, Len: 32}: 3, {Addr: 0xff000000, Len: 8}: 4}
	x := put(t, m.from(api.Prefix{})...)
	for _, y := range []*trie.Trie{trie.New(), x} {
		for _, p := range wrong() {
			was := rowsOf(y.From(api.Prefix{}))
			if old, had, e := y.Put(p, 9); old != 0 || had || e != api.ErrArg {
				t.Errorf("Put(%v) = %d, %t, %d", p, old, had, e)
			}
			if old, had, e := y.Take(p); old != 0 || had || e != api.ErrArg {
				t.Errorf("Take(%v) = %d, %t, %d", p, old, had, e)
			}
			if got := rowsOf(y.From(api.Prefix{})); !slices.Equal(got, was) {
				t.Errorf("what is refused changed %v to %v", was, got)
			}
		}
	}
	check(t, x, m, "one that refused")
}

// P6.1: a trie is full at MaxKeys; one that has a prefix takes another value of it; taking one makes room for one.
func TestMaxKeys(t *testing.T) {
	all := many(api.MaxKeys + 2)
	x, m := trie.New(), model{}
	for i, p := range all[:api.MaxKeys] {
		if old, had, e := x.Put(p, i); old != 0 || had || e != api.OK {
			t.Fatalf("Put of the prefix %d = %d, %t, %d", i, old, had, e)
		}
		m[p] = i
	}
	full := func(p api.Prefix) {
		t.Helper()
		if old, had, e := x.Put(p, 7); old != 0 || had || e != api.ErrLong {
			t.Errorf("Put of one more = %d, %t, %d", old, had, e)
		}
	}
	full(all[api.MaxKeys])
	full(all[api.MaxKeys+1])
	full(api.Prefix{})
	for _, p := range wrong() {
		if _, _, e := x.Put(p, 7); e != api.ErrArg {
			t.Errorf("Put(%v) where there is no room = %d", p, e)
		}
	}
	check(t, x, m, "a full one")
	for i, p := range all[:api.MaxKeys] {
		if old, had, e := x.Put(p, -i); old != i || !had || e != api.OK {
			t.Errorf("Put of one that is there = %d, %t, %d", old, had, e)
		}
		m[p] = -i
	}
	check(t, x, m, "a full one, with other values")
	if old, had, e := x.Take(all[9]); old != -9 || !had || e != api.OK {
		t.Errorf("Take = %d, %t, %d", old, had, e)
	}
	// one that it does not have makes no room
	x.Take(all[9])
	delete(m, all[9])
	if _, had, e := x.Put(all[api.MaxKeys], 5); had || e != api.OK {
		t.Errorf("Put where there is room again = %t, %d", had, e)
	}
	m[all[api.MaxKeys]] = 5
	full(all[9])
	full(all[api.MaxKeys+1])
	check(t, x, m, "a full one again")
	for _, p := range all {
		x.Take(p)
	}
	check(t, x, model{}, "one of which all is taken")
}

// P6.1 to P6.4: of no trie.
func TestNone(t *testing.T) {
	good, bad := api.Prefix{Addr: 0x0a000000, Len: 8}, api.Prefix{Addr: 1, Len: 8}
	for _, x := range nones() {
		for _, p := range []api.Prefix{{}, good, bad, {Len: -1}, {Len: 33}, {Addr: 7, Len: 32}} {
			if old, had, e := x.Put(p, 3); old != 0 || had || e != api.ErrNil {
				t.Errorf("Put(%v) = %d, %t, %d", p, old, had, e)
			}
			if old, had, e := x.Take(p); old != 0 || had || e != api.ErrNil {
				t.Errorf("Take(%v) = %d, %t, %d", p, old, had, e)
			}
			if val, has := x.Get(p); val != 0 || has {
				t.Errorf("Get(%v) = %d, %t", p, val, has)
			}
			if q, val, is := x.Find(p.Addr); q != (api.Prefix{}) || val != 0 || is {
				t.Errorf("Find(%#x) = %v, %d, %t", p.Addr, q, val, is)
			}
			for _, s := range []iter.Seq2[api.Prefix, int]{x.Above(p), x.From(p)} {
				if s == nil || len(rowsOf(s)) != 0 {
					t.Errorf("of %v something is told, or there is no iterator", p)
				}
			}
		}
		if x.Len() != 0 || x.Nodes() != 0 || x.Depth() != 0 {
			t.Errorf("Len %d, Nodes %d, Depth %d", x.Len(), x.Nodes(), x.Depth())
		}
		if x.Copy() != nil {
			t.Error("none has a copy")
		}
		for _, y := range nones() {
			if !trie.Same(x, y) {
				t.Error("none and none are not the same")
			}
		}
		for _, y := range []*trie.Trie{trie.New(), put(t, row{good, 1}), put(t, row{good, 0})} {
			if trie.Same(x, y) || trie.Same(y, x) {
				t.Error("none is the same as one")
			}
		}
	}
}

// P6.1, P6.2, P6.3, P6.5: each set of the prefixes of a few bits, beneath the top, in the middle, and at the end; each put in, and each taken.
func TestAllSmallSets(t *testing.T) {
	for _, ahead := range []string{"", "0000101000000001", strings.Repeat("1", 30)} {
		var all []api.Prefix
		for _, bits := range []string{"", "0", "1", "00", "01", "10", "11"} {
			all = append(all, made(ahead+bits))
		}
		for set := range 1 << len(all) {
			m := model{}
			for i, p := range all {
				if set>>i&1 == 1 {
					m[p] = 10 * i
				}
			}
			x := put(t, m.from(api.Prefix{})...)
			said := fmt.Sprintf("the set %07b beneath %q", set, ahead)
			check(t, x, m, said)
			for i, p := range all {
				checkWay(t, x, m, p)
				y, n := x.Copy(), maps.Clone(m)
				old, had, e := y.Take(p)
				if was, has := m[p]; old != was || had != has || e != api.OK {
					t.Errorf("%s: Take(%v) = %d, %t, %d", said, p, old, had, e)
				}
				delete(n, p)
				check(t, y, n, fmt.Sprintf("%s, without %d", said, i))
				if old, had, e := y.Put(p, -1); old != 0 || had || e != api.OK {
					t.Errorf("%s: Put(%v) = %d, %t, %d", said, p, old, had, e)
				}
				n[p] = -1
				check(t, y, n, fmt.Sprintf("%s, with %d", said, i))
			}
			check(t, x, m, said+", behind all that was done with its copies")
		}
	}
}

// P6.1 to P6.3, P6.5: prefixes come and go, step by step.
func TestComingAndGoing(t *testing.T) {
	all := some()
	x, m := trie.New(), model{}
	state := uint32(1)
	next := func(n int) int {
		state = state*1664525 + 1013904223
		return int(state>>8) % n
	}
	for step := range 4000 {
		p := all[next(len(all))]
		was, has := m[p]
		// For a while more come than go, for a while more go than come.
		if next(10) < 3+4*(step/500%2) {
			if old, had, e := x.Take(p); old != was || had != has || e != api.OK {
				t.Fatalf("step %d: Take(%v) = %d, %t, %d, want %d, %t", step, p, old, had, e, was, has)
			}
			delete(m, p)
		} else {
			val := next(7) - 3
			if old, had, e := x.Put(p, val); old != was || had != has || e != api.OK {
				t.Fatalf("step %d: Put(%v) = %d, %t, %d, want %d, %t", step, p, old, had, e, was, has)
			}
			m[p] = val
		}
		if x.Len() != len(m) {
			t.Fatalf("step %d: Len %d, want %d", step, x.Len(), len(m))
		}
		checkWay(t, x, m, all[next(len(all))])
		checkWay(t, x, m, api.Prefix{Addr: api.Addr(step) * 2654435761, Len: 32})
		if step%100 == 0 {
			check(t, x, m, fmt.Sprint("step ", step))
		}
	}
}
