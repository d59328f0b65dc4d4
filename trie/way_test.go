package trie_test

import (
	"iter"
	"maps"
	"math"
	"slices"
	"strings"
	"testing"

	"waywarden/api"
	"waywarden/trie"
)

// network is a trie with some prefixes within others, and its model.
func network(t *testing.T) (*trie.Trie, model) {
	t.Helper()
	m := model{
		{Addr: 0x0a000000, Len: 8}:  1,
		{Addr: 0x0a010000, Len: 16}: 0,
		{Addr: 0x0a010200, Len: 24}: -3,
		{Addr: 0x0a010203, Len: 32}: 4,
		{Addr: 0x0a020000, Len: 16}: 5,
		{Addr: 0xac100000, Len: 12}: 6,
		{Addr: 0xffffffff, Len: 32}: 7,
		{Addr: 0xfffffffe, Len: 31}: 8,
	}
	return put(t, m.from(api.Prefix{})...), m
}

// P6.2
func TestGet(t *testing.T) {
	x, m := network(t)
	for _, p := range append(some(), slices.Collect(maps.Keys(m))...) {
		val, want := m[p]
		if got, has := x.Get(p); got != val || has != want {
			t.Errorf("Get(%v) = %d, %t, want %d, %t", p, got, has, val, want)
		}
	}
	// what two have in common is a node, but has no value
	for _, p := range []api.Prefix{{Addr: 0x0a000000, Len: 14}, {}} {
		if val, has := x.Get(p); val != 0 || has {
			t.Errorf("Get(%v) = %d, %t", p, val, has)
		}
	}
	for _, p := range wrong() {
		if val, has := x.Get(p); val != 0 || has {
			t.Errorf("Get(%v) = %d, %t", p, val, has)
		}
	}
}

// P6.2, P6.5
func TestFind(t *testing.T) {
	x, _ := network(t)
	rows := []struct {
		a   api.Addr
		p   api.Prefix
		val int
		is  bool
	}{
		{0x0a010203, api.Prefix{Addr: 0x0a010203, Len: 32}, 4, true},
		{0x0a010204, api.Prefix{Addr: 0x0a010200, Len: 24}, -3, true},
		{0x0a010200, api.Prefix{Addr: 0x0a010200, Len: 24}, -3, true},
		{0x0a0102ff, api.Prefix{Addr: 0x0a010200, Len: 24}, -3, true},
		{0x0a010300, api.Prefix{Addr: 0x0a010000, Len: 16}, 0, true},
		{0x0a0101ff, api.Prefix{Addr: 0x0a010000, Len: 16}, 0, true},
		{0x0a020203, api.Prefix{Addr: 0x0a020000, Len: 16}, 5, true},
		{0x0a030203, api.Prefix{Addr: 0x0a000000, Len: 8}, 1, true},
		{0x0a00ffff, api.Prefix{Addr: 0x0a000000, Len: 8}, 1, true},
		{0x0affffff, api.Prefix{Addr: 0x0a000000, Len: 8}, 1, true},
		{0x0b000000, api.Prefix{}, 0, false},
		{0x09ffffff, api.Prefix{}, 0, false},
		{0xac1fffff, api.Prefix{Addr: 0xac100000, Len: 12}, 6, true},
		{0xac200000, api.Prefix{}, 0, false},
		{0xac0fffff, api.Prefix{}, 0, false},
		{0xffffffff, api.Prefix{Addr: 0xffffffff, Len: 32}, 7, true},
		{0xfffffffe, api.Prefix{Addr: 0xfffffffe, Len: 31}, 8, true},
		{0xfffffffd, api.Prefix{}, 0, false},
		{0, api.Prefix{}, 0, false},
	}
	for _, r := range rows {
		if p, val, is := x.Find(r.a); p != r.p || val != r.val || is != r.is {
			t.Errorf("Find(%#x) = %v, %d, %t, want %v, %d, %t", r.a, p, val, is, r.p, r.val, r.is)
		}
	}
	// one that has all addresses
	x.Put(api.Prefix{}, 9)
	for _, r := range rows {
		want := row{r.p, r.val}
		if !r.is {
			want.val = 9
		}
		if p, val, is := x.Find(r.a); (row{p, val}) != want || !is {
			t.Errorf("Find(%#x) = %v, %d, %t, want %v", r.a, p, val, is, want)
		}
	}
}

// P6.2: a chain of all prefixes of an address, the longest that there may be.
func TestFindInAChain(t *testing.T) {
	for _, a := range []api.Addr{0, 0xffffffff, 0x55555555, 0x0a010203} {
		x, m := trie.New(), model{}
		for _, n := range []int{32, 0, 16, 31, 1, 8, 24, 4, 12, 20, 28} {
			m[made(digits(a)[:n])] = n
			x.Put(made(digits(a)[:n]), n)
		}
		for n := range 33 {
			checkWay(t, x, m, made(digits(a)[:n]))
			// the address with just one bit turned
			checkWay(t, x, m, api.Prefix{Addr: a ^ 1<<(n%32), Len: 32})
		}
		check(t, x, m, "a chain")
	}
}

// P6.2, P6.5
func TestAbove(t *testing.T) {
	x, m := network(t)
	want := []row{{api.Prefix{Addr: 0x0a000000, Len: 8}, 1}, {api.Prefix{Addr: 0x0a010000, Len: 16}, 0}, {api.Prefix{Addr: 0x0a010200, Len: 24}, -3}}
	for p, many := range map[api.Prefix]int{
		{Addr: 0x0a010200, Len: 24}: 3,
		{Addr: 0x0a010200, Len: 31}: 3,
		{Addr: 0x0a010200, Len: 32}: 3,
		{Addr: 0x0a010200, Len: 23}: 2,
		{Addr: 0x0a010000, Len: 17}: 2,
		{Addr: 0x0a010000, Len: 16}: 2,
		{Addr: 0x0a010000, Len: 15}: 0, // one that may not be
		{Addr: 0x0a000000, Len: 15}: 1,
		{Addr: 0x0a000000, Len: 8}:  1,
		{Addr: 0x0a000000, Len: 7}:  0,
		{Addr: 0x0a000000, Len: 32}: 1,
		{Addr: 0x0b000000, Len: 32}: 0,
		{}:                          0,
	} {
		if got := rowsOf(x.Above(p)); !slices.Equal(got, want[:many]) {
			t.Errorf("Above(%v) tells %v, want %v", p, got, want[:many])
		}
	}
	for _, p := range some() {
		checkWay(t, x, m, p)
	}
	// none of one that may not be, where there is one of all addresses, too
	x.Put(api.Prefix{}, 9)
	for _, p := range wrong() {
		if s := x.Above(p); s == nil || len(rowsOf(s)) != 0 {
			t.Errorf("Above(%v) tells %v", p, rowsOf(s))
		}
	}
}

// P6.3
func TestFrom(t *testing.T) {
	x, m := network(t)
	l := []row{
		{api.Prefix{Addr: 0x0a000000, Len: 8}, 1},
		{api.Prefix{Addr: 0x0a010000, Len: 16}, 0},
		{api.Prefix{Addr: 0x0a010200, Len: 24}, -3},
		{api.Prefix{Addr: 0x0a010203, Len: 32}, 4},
		{api.Prefix{Addr: 0x0a020000, Len: 16}, 5},
		{api.Prefix{Addr: 0xac100000, Len: 12}, 6},
		{api.Prefix{Addr: 0xfffffffe, Len: 31}, 8},
		{api.Prefix{Addr: 0xffffffff, Len: 32}, 7},
	}
	rows := []struct {
		p  api.Prefix
		at int
	}{
		{api.Prefix{}, 0},
		{api.Prefix{Addr: 0x0a000000, Len: 8}, 0},
		{api.Prefix{Addr: 0x0a000000, Len: 7}, 0},
		{api.Prefix{Addr: 0x0a000000, Len: 9}, 1},
		{api.Prefix{Addr: 0x0a010000, Len: 16}, 1},
		{api.Prefix{Addr: 0x0a010000, Len: 17}, 2},
		{api.Prefix{Addr: 0x0a010200, Len: 23}, 2},
		{api.Prefix{Addr: 0x0a010203, Len: 32}, 3},
		{api.Prefix{Addr: 0x0a020000, Len: 16}, 4},
		{api.Prefix{Addr: 0xac000000, Len: 8}, 5},
		{api.Prefix{Addr: 0xfffffffe, Len: 32}, 7},
		{api.Prefix{Addr: 0xffffffff, Len: 32}, 7},
		// such as may not be stand in the order, too
		{api.Prefix{Addr: 0x0a000000, Len: 6}, 0},
		{api.Prefix{Addr: 0x0a000000, Len: -1}, 0},
		{api.Prefix{Addr: 0x0a000000, Len: math.MinInt}, 0},
		{api.Prefix{Addr: 0x0a000000, Len: math.MaxInt}, 1},
		{api.Prefix{Addr: 0x0a000001, Len: 8}, 1},
		{api.Prefix{Addr: 0x0a010203, Len: 8}, 3},
		{api.Prefix{Addr: 0x0a010203, Len: 33}, 4},
		{api.Prefix{Len: -1}, 0},
		{api.Prefix{Len: math.MinInt}, 0},
		{api.Prefix{Len: math.MaxInt}, 0},
		{api.Prefix{Addr: 0xffffffff}, 7},
		{api.Prefix{Addr: 0xffffffff, Len: 31}, 7},
		{api.Prefix{Addr: 0xffffffff, Len: 33}, 8},
		{api.Prefix{Addr: 0xffffffff, Len: 1<<32 + 32}, 8},
	}
	for _, r := range rows {
		if got := rowsOf(x.From(r.p)); !slices.Equal(got, l[r.at:]) {
			t.Errorf("From(%v) tells %v, want %v", r.p, got, l[r.at:])
		}
	}
	for _, p := range append(some(), wrong()...) {
		if got, want := rowsOf(x.From(p)), m.from(p); !slices.Equal(got, want) {
			t.Errorf("From(%v) tells %v, want %v", p, got, want)
		}
	}
	// 0.0.0.0/0 is behind one of a Len below 0, alone
	x.Put(api.Prefix{}, 9)
	if got := rowsOf(x.From(api.Prefix{Len: -1})); len(got) != 9 || got[0] != (row{api.Prefix{}, 9}) {
		t.Errorf("From of a Len below 0 tells %v", got)
	}
	if got := rowsOf(x.From(api.Prefix{Len: 1})); !slices.Equal(got, l) {
		t.Errorf("From(0.0.0.0/1) tells %v", got)
	}
}

// P6.3, P6.5: a full trie, from each of its prefixes on.
func TestFromOfManyKeys(t *testing.T) {
	m := model{}
	for i, p := range many(api.MaxKeys) {
		m[p] = i
	}
	all := m.from(api.Prefix{})
	x := put(t, all...)
	for i, r := range all {
		if got := rowsOf(x.From(r.p)); !slices.Equal(got, all[i:]) {
			t.Errorf("From(%v) tells %d, want %d", r.p, len(got), len(all)-i)
		}
		if got := rowsOf(x.From(api.Prefix{Addr: r.p.Addr, Len: r.p.Len + 1})); len(got) > 0 && got[0] != all[i+1] || len(got) != len(all)-i-1 {
			t.Errorf("From behind %v tells %d, want %d", r.p, len(got), len(all)-i-1)
		}
	}
}

// seqs are all that goes over a trie's prefixes, and what each tells now.
func seqs(x *trie.Trie) map[string]iter.Seq2[api.Prefix, int] {
	return map[string]iter.Seq2[api.Prefix, int]{
		"Above": x.Above(api.Prefix{Addr: 0x0a010203, Len: 32}),
		"From":  x.From(api.Prefix{Addr: 0x0a010000, Len: 16}),
	}
}

// P6.2, P6.3: it may be left at any time, and gone over again.
func TestLeftAndGoneOverAgain(t *testing.T) {
	x, _ := network(t)
	for name, s := range seqs(x) {
		all := rowsOf(s)
		for n := 1; n <= len(all); n++ {
			var l []row
			s(func(p api.Prefix, val int) bool {
				l = append(l, row{p, val})
				return len(l) < n
			})
			if !slices.Equal(l, all[:n]) {
				t.Errorf("%s, left behind %d, tells %v", name, n, l)
			}
		}
		// within itself
		for p, val := range s {
			if got := rowsOf(s); !slices.Equal(got, all) {
				t.Errorf("%s at %v, %d, gone over within itself, tells %v", name, p, val, got)
			}
		}
		if got := rowsOf(s); !slices.Equal(got, all) {
			t.Errorf("%s, gone over again, tells %v", name, got)
		}
	}
}

// P6.2, P6.3: what is told is as it was when it was called, whatever becomes of the trie, ahead of it or under way.
func TestAsTheyWere(t *testing.T) {
	changes := map[string]func(*trie.Trie){
		"a value":    func(x *trie.Trie) { x.Put(api.Prefix{Addr: 0x0a010200, Len: 24}, 77) },
		"one taken":  func(x *trie.Trie) { x.Take(api.Prefix{Addr: 0x0a010200, Len: 24}) },
		"the last":   func(x *trie.Trie) { x.Take(api.Prefix{Addr: 0x0a010203, Len: 32}) },
		"the top":    func(x *trie.Trie) { x.Put(api.Prefix{}, 77) },
		"one more":   func(x *trie.Trie) { x.Put(api.Prefix{Addr: 0x0a010000, Len: 17}, 77) },
		"one behind": func(x *trie.Trie) { x.Put(api.Prefix{Addr: 0xfffffff0, Len: 28}, 77) },
		"all taken": func(x *trie.Trie) {
			for p := range x.From(api.Prefix{}) {
				x.Take(p)
			}
		},
		"all other values": func(x *trie.Trie) {
			for p, val := range x.From(api.Prefix{}) {
				x.Put(p, val+100)
			}
		},
	}
	for said, change := range changes {
		for _, name := range []string{"Above", "From"} {
			x, m := network(t)
			s := seqs(x)[name]
			want := m.above(api.Prefix{Addr: 0x0a010203, Len: 32})
			if name == "From" {
				want = m.from(api.Prefix{Addr: 0x0a010000, Len: 16})
			}
			var l []row
			for p, val := range s {
				l = append(l, row{p, val})
				change(x)
			}
			if !slices.Equal(l, want) {
				t.Errorf("%s, %s changed under way: %v, want %v", name, said, l, want)
			}
			if got := rowsOf(s); !slices.Equal(got, want) {
				t.Errorf("%s, %s changed ahead: %v, want %v", name, said, got, want)
			}
			if got := rowsOf(seqs(x)[name]); slices.Equal(got, want) && name+said != "Aboveone behind" && name+said != "Fromthe top" {
				t.Errorf("%s, %s changed: called anew it tells %v", name, said, got)
			}
		}
	}
}

// P6.2, P6.3: all is taken while it is gone over.
func TestTakenUnderWay(t *testing.T) {
	x, m := network(t)
	var l []row
	for p, val := range x.From(api.Prefix{}) {
		l = append(l, row{p, val})
		if old, had, e := x.Take(p); old != val || !had || e != api.OK {
			t.Errorf("Take(%v) = %d, %t, %d", p, old, had, e)
		}
	}
	if !slices.Equal(l, m.from(api.Prefix{})) {
		t.Errorf("From tells %v", l)
	}
	check(t, x, model{}, "one of which all is taken")
}

// P6.2: asking changes nothing, and tells the same again.
func TestAskingChangesNothing(t *testing.T) {
	x, m := network(t)
	for range 3 {
		for _, p := range append(some(), wrong()...) {
			x.Get(p)
			x.Find(p.Addr)
			for range x.Above(p) {
				break
			}
			for range x.From(p) {
				break
			}
		}
		check(t, x, m, "one that was asked")
	}
}

// P6.5: Find tells the last one that Above tells of the address's prefix of Len 32.
func TestFindIsTheLastAbove(t *testing.T) {
	x, _ := network(t)
	for i, p := range append(some(), many(500)...) {
		x.Put(p, i)
		if i%40 != 0 {
			continue
		}
		for _, bits := range []string{strings.Repeat("0", 32), digits(p.Addr), digits(^p.Addr), digits(p.Addr + 1), digits(p.Addr - 1)} {
			a := made(bits)
			var last row
			any := false
			for q, val := range x.Above(a) {
				last, any = row{q, val}, true
			}
			if q, val, is := x.Find(a.Addr); (row{q, val}) != last || is != any {
				t.Errorf("%d: Find(%#x) = %v, %d, %t, want %v, %t", i, a.Addr, q, val, is, last, any)
			}
		}
	}
}
