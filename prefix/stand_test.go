package prefix_test

import (
	"math"
	"math/rand"
	"slices"
	"strings"
	"testing"

	"waywarden/api"
	"waywarden/prefix"
)

// stands is how one stands to the other one, by their first bits as texts.
func stands(p, q api.Prefix) api.PrefixRel {
	a, b := first(p), first(q)
	switch {
	case a == b:
		return api.RelSame
	case strings.HasPrefix(a, b):
		return api.RelWithin
	case strings.HasPrefix(b, a):
		return api.RelAround
	}
	return api.RelApart
}

// common is the longest one around both, by their first bits as texts.
func common(p, q api.Prefix) api.Prefix {
	a, b := first(p), first(q)
	n := 0
	for n < len(a) && n < len(b) && a[n] == b[n] {
		n++
	}
	return made(a[:n])
}

// P2.2
func TestStands(t *testing.T) {
	rows := []struct {
		p, q api.Prefix
		want api.PrefixRel
	}{
		{api.Prefix{Addr: 0x0a000000, Len: 8}, api.Prefix{Addr: 0x0a010000, Len: 16}, api.RelAround},
		{api.Prefix{Addr: 0x0a010000, Len: 16}, api.Prefix{Addr: 0x0a000000, Len: 8}, api.RelWithin},
		{api.Prefix{Addr: 0x0a000000, Len: 8}, api.Prefix{Addr: 0x0a000000, Len: 8}, api.RelSame},
		{api.Prefix{Addr: 0x0a000000, Len: 8}, api.Prefix{Addr: 0x0a000000, Len: 9}, api.RelAround},
		{api.Prefix{Addr: 0x0a000000, Len: 9}, api.Prefix{Addr: 0x0a000000, Len: 8}, api.RelWithin},
		{api.Prefix{Addr: 0x0a000000, Len: 8}, api.Prefix{Addr: 0x0b000000, Len: 8}, api.RelApart},
		{api.Prefix{Addr: 0x0a000000, Len: 8}, api.Prefix{Addr: 0x0b000000, Len: 16}, api.RelApart},
		{api.Prefix{Addr: 0x0b000000, Len: 16}, api.Prefix{Addr: 0x0a000000, Len: 8}, api.RelApart},
		{api.Prefix{}, api.Prefix{}, api.RelSame},
		{api.Prefix{}, api.Prefix{Len: 1}, api.RelAround},
		{api.Prefix{Addr: 0xffffffff, Len: 32}, api.Prefix{}, api.RelWithin},
		{api.Prefix{Addr: 0xffffffff, Len: 32}, api.Prefix{Addr: 0xfffffffe, Len: 32}, api.RelApart},
		{api.Prefix{Len: 1}, api.Prefix{Addr: 0x80000000, Len: 1}, api.RelApart},
	}
	for _, r := range rows {
		if rel, e := prefix.Stands(r.p, r.q); rel != r.want || e != api.OK {
			t.Errorf("Stands(%v, %v) = %d, %d, want %d", r.p, r.q, rel, e, r.want)
		}
	}
	for _, p := range some() {
		for _, q := range some() {
			if rel, e := prefix.Stands(p, q); rel != stands(p, q) || e != api.OK {
				t.Errorf("Stands(%v, %v) = %d, %d, want %d", p, q, rel, e, stands(p, q))
			}
		}
	}
}

// P2.2
func TestStandsAndCommonRefuseWhatMayNotBe(t *testing.T) {
	good := []api.Prefix{{}, {Addr: 0x0a000000, Len: 8}, {Addr: 0xffffffff, Len: 32}}
	check := func(p, q api.Prefix) {
		t.Helper()
		if rel, e := prefix.Stands(p, q); rel != api.RelNone || e != api.ErrArg {
			t.Errorf("Stands(%v, %v) = %d, %d, want 0, %d", p, q, rel, e, api.ErrArg)
		}
		if c, e := prefix.Common(p, q); c != (api.Prefix{}) || e != api.ErrArg {
			t.Errorf("Common(%v, %v) = %v, %d, want nothing, %d", p, q, c, e, api.ErrArg)
		}
	}
	for _, p := range wrong() {
		check(p, p)
		for _, q := range good {
			check(p, q)
			check(q, p)
		}
	}
	for _, p := range wrong() {
		for _, q := range wrong() {
			check(p, q)
		}
	}
}

// ends are the lowest and the highest address of a prefix.
func ends(p api.Prefix) (low, high uint64) {
	low = uint64(p.Addr)
	return low, low + 1<<(32-p.Len) - 1
}

// P2.5: they stand as the addresses in them do.
func TestStandsAsTheAddressesDo(t *testing.T) {
	for _, p := range some() {
		for _, q := range some() {
			pl, ph := ends(p)
			ql, qh := ends(q)
			var want api.PrefixRel
			switch {
			case pl == ql && ph == qh:
				want = api.RelSame
			case ql <= pl && ph <= qh:
				want = api.RelWithin
			case pl <= ql && qh <= ph:
				want = api.RelAround
			case ph < ql || qh < pl:
				want = api.RelApart
			}
			rel, e := prefix.Stands(p, q)
			if rel != want || e != api.OK || want == api.RelNone {
				t.Errorf("Stands(%v, %v) = %d, %d, want %d", p, q, rel, e, want)
			}
			all := prefix.Has(q, api.Addr(pl)) && prefix.Has(q, api.Addr(ph))
			if all != (want == api.RelSame || want == api.RelWithin) {
				t.Errorf("%v has both ends of %v: %t", q, p, all)
			}
		}
	}
}

// P2.2
func TestCommon(t *testing.T) {
	rows := []struct {
		p, q, want api.Prefix
	}{
		{api.Prefix{Addr: 0x0a000000, Len: 16}, api.Prefix{Addr: 0x0a010000, Len: 16}, api.Prefix{Addr: 0x0a000000, Len: 15}},
		{api.Prefix{Addr: 0x0a000000, Len: 8}, api.Prefix{Addr: 0x0a000000, Len: 16}, api.Prefix{Addr: 0x0a000000, Len: 8}},
		{api.Prefix{Addr: 0x0a000000, Len: 16}, api.Prefix{Addr: 0x0a000000, Len: 8}, api.Prefix{Addr: 0x0a000000, Len: 8}},
		{api.Prefix{Addr: 0x0a000001, Len: 32}, api.Prefix{Addr: 0x0a000001, Len: 32}, api.Prefix{Addr: 0x0a000001, Len: 32}},
		{api.Prefix{Addr: 0x0a000000, Len: 32}, api.Prefix{Addr: 0x0a000001, Len: 32}, api.Prefix{Addr: 0x0a000000, Len: 31}},
		{api.Prefix{}, api.Prefix{Addr: 0xffffffff, Len: 32}, api.Prefix{}},
		{api.Prefix{Len: 32}, api.Prefix{Addr: 0x80000000, Len: 32}, api.Prefix{}},
		{api.Prefix{}, api.Prefix{}, api.Prefix{}},
	}
	for _, r := range rows {
		if c, e := prefix.Common(r.p, r.q); c != r.want || e != api.OK {
			t.Errorf("Common(%v, %v) = %v, %d, want %v", r.p, r.q, c, e, r.want)
		}
	}
	for _, p := range some() {
		for _, q := range some() {
			if c, e := prefix.Common(p, q); c != common(p, q) || e != api.OK {
				t.Errorf("Common(%v, %v) = %v, %d, want %v", p, q, c, e, common(p, q))
			}
		}
	}
}

// order is the order, by what it says.
func order(p, q api.Prefix) int {
	switch {
	case p == q:
		return 0
	case p.Addr < q.Addr || p.Addr == q.Addr && p.Len < q.Len:
		return -1
	}
	return 1
}

// P2.2: of any, those that may not be as well.
func TestOrder(t *testing.T) {
	rows := []struct {
		p, q api.Prefix
		want int
	}{
		{api.Prefix{Addr: 0x0a000000, Len: 8}, api.Prefix{Addr: 0x0a000000, Len: 16}, -1},
		{api.Prefix{Addr: 0x0a000000, Len: 16}, api.Prefix{Addr: 0x0a000000, Len: 8}, 1},
		{api.Prefix{Addr: 0x0a000000, Len: 8}, api.Prefix{Addr: 0x0a000000, Len: 8}, 0},
		{api.Prefix{Addr: 0x0a000000, Len: 32}, api.Prefix{Addr: 0x0b000000, Len: 8}, -1},
		{api.Prefix{Addr: 0x7f000000, Len: 32}, api.Prefix{Addr: 0x80000000, Len: 1}, -1},
		{api.Prefix{Addr: 0xffffffff, Len: 32}, api.Prefix{}, 1},
		{api.Prefix{Addr: 0xffffffff, Len: 0}, api.Prefix{Addr: 0xffffffff, Len: 1}, -1},
		{api.Prefix{Len: math.MinInt}, api.Prefix{Len: math.MaxInt}, -1},
		{api.Prefix{Len: math.MaxInt}, api.Prefix{Len: math.MinInt}, 1},
		{api.Prefix{Len: math.MinInt}, api.Prefix{Len: math.MinInt}, 0},
		{api.Prefix{Len: -1}, api.Prefix{Len: 0}, -1},
		{api.Prefix{Len: 33}, api.Prefix{Len: 32}, 1},
	}
	for _, r := range rows {
		if o := prefix.Order(r.p, r.q); o != r.want {
			t.Errorf("Order(%v, %v) = %d, want %d", r.p, r.q, o, r.want)
		}
	}
	l := append(some(), wrong()...)
	for _, p := range l {
		for _, q := range l {
			if o := prefix.Order(p, q); o != order(p, q) {
				t.Errorf("Order(%v, %v) = %d, want %d", p, q, o, order(p, q))
			}
		}
	}
}

// sorted is the list by the order, each once, one put behind the other.
func sorted(l []api.Prefix) []api.Prefix {
	var s []api.Prefix
	for _, p := range l {
		i := 0
		for i < len(s) && order(s[i], p) < 0 {
			i++
		}
		if i == len(s) || s[i] != p {
			s = slices.Insert(s, i, p)
		}
	}
	return s
}

// P2.2
func TestSort(t *testing.T) {
	a, b, c := api.Prefix{Addr: 0x0a000000, Len: 8}, api.Prefix{Addr: 0x0a000000, Len: 16}, api.Prefix{Addr: 0x0b000000, Len: 8}
	bad, low := api.Prefix{Addr: 0x0a000001, Len: 8}, api.Prefix{Addr: 0x0a000000, Len: -1}
	rows := []struct {
		l, want []api.Prefix
	}{
		{nil, nil},
		{[]api.Prefix{}, nil},
		{[]api.Prefix{a}, []api.Prefix{a}},
		{[]api.Prefix{a, a}, []api.Prefix{a}},
		{[]api.Prefix{a, b, c}, []api.Prefix{a, b, c}},
		{[]api.Prefix{c, b, a}, []api.Prefix{a, b, c}},
		{[]api.Prefix{c, a, c, b, a, b, c}, []api.Prefix{a, b, c}},
		{[]api.Prefix{bad, c, low, bad, a, low}, []api.Prefix{low, a, bad, c}},
		{[]api.Prefix{{}, {}, {}}, []api.Prefix{{}}},
	}
	for _, r := range rows {
		if l := prefix.Sort(r.l...); !slices.Equal(l, r.want) {
			t.Errorf("Sort(%v) = %v, want %v", r.l, l, r.want)
		}
	}
	if l := prefix.Sort(); len(l) != 0 {
		t.Errorf("Sort() = %v", l)
	}
	draw := rand.New(rand.NewSource(1))
	pool := append(some(), wrong()...)
	for n := range 200 {
		l := make([]api.Prefix, n)
		for i := range l {
			l[i] = pool[draw.Intn(len(pool))]
		}
		if s := prefix.Sort(l...); !slices.Equal(s, sorted(l)) {
			t.Errorf("Sort(%v) = %v", l, s)
		}
	}
}

// P2.2: what is handed in is not changed, spare room included, and the answer is new memory.
func TestSortLeavesItsListAsItIs(t *testing.T) {
	for _, l := range [][]api.Prefix{
		{{Len: 3}, {Len: 2}, {Len: 2}, {Len: 1}, {Len: 9}},
		{{Len: 1}, {Len: 2}, {Len: 3}, {Len: 4}, {Len: 9}},
		{{Len: 7}, {Len: 7}, {Len: 7}, {Len: 7}, {Len: 9}},
	} {
		before := slices.Clone(l)
		s := prefix.Sort(l[:4]...)
		if !slices.Equal(l, before) {
			t.Errorf("Sort left %v, was %v", l, before)
		}
		for i := range s {
			s[i] = api.Prefix{Len: 99}
		}
		_ = append(s, api.Prefix{Len: 99})
		if !slices.Equal(l, before) {
			t.Errorf("the answer shares memory with %v", before)
		}
	}
}

// P2.2
func TestSortOfLongLists(t *testing.T) {
	n := 200000
	l := make([]api.Prefix, n)
	for i := range l {
		l[i] = api.Prefix{Addr: api.Addr(i%1000) * 2654435761, Len: i % 7}
	}
	s := prefix.Sort(l...)
	if len(s) != 7000 {
		t.Errorf("Sort of %d, of which 7000 are different, has %d", n, len(s))
	}
	for i := 1; i < len(s); i++ {
		if order(s[i-1], s[i]) >= 0 {
			t.Fatalf("%v stands ahead of %v", s[i-1], s[i])
		}
	}
}

// P2.5: a prefix stands ahead of those within it, and these beside one another.
func TestThoseWithinStandBehind(t *testing.T) {
	l := prefix.Sort(some()...)
	for i, p := range l {
		j := i + 1
		for j < len(l) && stands(l[j], p) == api.RelWithin {
			j++
		}
		for k, q := range l {
			if rel, _ := prefix.Stands(q, p); (rel == api.RelWithin) != (k > i && k < j) {
				t.Errorf("%v, within %v, or not, stands at %d, that at %d", q, p, k, i)
			}
		}
	}
}

// told is one thing that Around tells.
type told struct {
	n int
	p api.Prefix
}

func around(p api.Prefix) []told {
	var l []told
	for n, q := range prefix.Around(p) {
		l = append(l, told{n, q})
	}
	return l
}

// P2.4
func TestAround(t *testing.T) {
	for _, p := range some() {
		var want []told
		for n := range p.Len + 1 {
			want = append(want, told{n, made(first(p)[:n])})
		}
		if l := around(p); !slices.Equal(l, want) {
			t.Errorf("Around(%v) tells %v, want %v", p, l, want)
		}
	}
	if l := around(api.Prefix{}); !slices.Equal(l, []told{{}}) {
		t.Errorf("Around(0.0.0.0/0) tells %v", l)
	}
	if l := around(api.Prefix{Addr: 0xc0000000, Len: 3}); !slices.Equal(l, []told{{0, api.Prefix{}}, {1, api.Prefix{Addr: 0x80000000, Len: 1}}, {2, api.Prefix{Addr: 0xc0000000, Len: 2}}, {3, api.Prefix{Addr: 0xc0000000, Len: 3}}}) {
		t.Errorf("Around(192.0.0.0/3) tells %v", l)
	}
}

// P2.4
func TestAroundOfWhatMayNotBe(t *testing.T) {
	for _, p := range wrong() {
		it := prefix.Around(p)
		if it == nil {
			t.Fatalf("Around(%v) is nil", p)
		}
		if l := around(p); l != nil {
			t.Errorf("Around(%v) tells %v", p, l)
		}
	}
}

// P2.4: it may be left at any time, and gone over again, from Len 0 on.
func TestAroundMayBeLeftAndGoneOverAgain(t *testing.T) {
	p := api.Prefix{Addr: 0xffffffff, Len: 32}
	want := around(p)
	it := prefix.Around(p)
	for n := range 3 * len(want) {
		stop := n%len(want) + 1
		var l []told
		it(func(n int, q api.Prefix) bool {
			l = append(l, told{n, q})
			return len(l) < stop
		})
		if !slices.Equal(l, want[:stop]) {
			t.Errorf("left behind %d, it has told %v", stop, l)
		}
	}
	for range 2 {
		var l []told
		for n, q := range it {
			l = append(l, told{n, q})
		}
		if !slices.Equal(l, want) {
			t.Errorf("gone over again, it tells %v", l)
		}
	}
}

// P2.4: two that go over the same ones do not hinder each other.
func TestAroundWithinItself(t *testing.T) {
	it := prefix.Around(api.Prefix{Addr: 0x80000000, Len: 2})
	var l []int
	for n := range it {
		for m := range it {
			l = append(l, 10*n+m)
		}
	}
	if want := []int{0, 1, 2, 10, 11, 12, 20, 21, 22}; !slices.Equal(l, want) {
		t.Errorf("it tells %v, want %v", l, want)
	}
}
