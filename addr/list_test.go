package addr_test

import (
	"slices"
	"strings"
	"testing"

	"waywarden/addr"
	"waywarden/api"
)

// told is one thing that Each tells.
type told struct {
	at int
	a  api.Addr
}

func all(s string) []told {
	var l []told
	for at, a := range addr.Each(s) {
		l = append(l, told{at, a})
	}
	return l
}

// P1.3
func TestEach(t *testing.T) {
	one, two, top := api.Addr(0x0a000001), api.Addr(0x0a000002), api.Addr(0xffffffff)
	rows := []struct {
		s    string
		want []told
	}{
		{"10.0.0.1", []told{{0, one}}},
		{"10.0.0.1 10.0.0.2", []told{{0, one}, {9, two}}},
		{"10.0.0.1 10.0.0.2 x", []told{{0, one}, {9, two}}},
		{"0.0.0.0 255.255.255.255 0.0.0.0", []told{{0, 0}, {8, top}, {24, 0}}},
		{"10.0.0.2 10.0.0.1 10.0.0.1", []told{{0, two}, {9, one}, {18, one}}},
		// nothing, and blanks
		{"", nil},
		{" ", nil},
		{"  ", nil},
		{" 10.0.0.1", nil},
		{"10.0.0.1 ", []told{{0, one}}},
		{"10.0.0.1  ", []told{{0, one}}},
		{"10.0.0.1  10.0.0.2", []told{{0, one}}},
		{"10.0.0.1 10.0.0.2 ", []told{{0, one}, {9, two}}},
		{"10.0.0.1 10.0.0.2  10.0.0.1", []told{{0, one}, {9, two}}},
		// what is no blank
		{"10.0.0.1\t10.0.0.2", nil},
		{"10.0.0.1\n10.0.0.2", nil},
		{"10.0.0.1,10.0.0.2", nil},
		{"10.0.0.1\u00a010.0.0.2", nil},
		{"10.0.0.1\n", nil},
		{"10.0.0.2 10.0.0.1\n", []told{{0, two}}},
		{"10.0.0.2 10.0.0.1\t10.0.0.1", []told{{0, two}}},
		// texts that are no address's, ahead, between, and behind
		{"x", nil},
		{"x 10.0.0.1", nil},
		{"10.0.0.1 x 10.0.0.2", []told{{0, one}}},
		{"10.0.0.1x", nil},
		{"10.0.0.1x 10.0.0.2", nil},
		{"10.0.0.2 10.0.0.1x 10.0.0.2", []told{{0, two}}},
		{"10.0.0.1 10.0.0", []told{{0, one}}},
		{"10.0.0.1 10.0.0.", []told{{0, one}}},
		{"10.0.0.1 10.0.0.2.", []told{{0, one}}},
		{"10.0.0.1 10.0.0.256", []told{{0, one}}},
		{"10.0.0.1 10.0.0.02 10.0.0.2", []told{{0, one}}},
		{"10.0.0.1.10.0.0.2", nil},
		{"10.0.0.1 .", []told{{0, one}}},
		// no UTF-8, and more than a byte a sign
		{"\xff", nil},
		{"10.0.0.1\xff", nil},
		{"10.0.0.1 \xff", []told{{0, one}}},
		{"10.0.0.1 10.0.0.2\xff", []told{{0, one}}},
		{"10.0.0.1 10.0.0.2 \xc3", []told{{0, one}, {9, two}}},
		{"é 10.0.0.1", nil},
		{"10.0.0.1 10.0.0.２", []told{{0, one}}},
		{"10.0.0.1 \x00", []told{{0, one}}},
	}
	for _, r := range rows {
		if l := all(r.s); !slices.Equal(l, r.want) {
			t.Errorf("Each(%q) tells %v, want %v", r.s, l, r.want)
		}
	}
}

// P1.3: any other byte behind an address is none that it may have behind it.
func TestEachOfEachByteBehind(t *testing.T) {
	for b := range 256 {
		s := "10.0.0.1 10.0.0.2" + string([]byte{byte(b)}) + "10.0.0.3"
		want := []told{{0, 0x0a000001}}
		if b == ' ' {
			want = append(want, told{9, 0x0a000002}, told{18, 0x0a000003})
		}
		if l := all(s); !slices.Equal(l, want) {
			t.Errorf("Each(%q) tells %v, want %v", s, l, want)
		}
	}
}

// P1.3: it may be left at any time, and gone over again, from its beginning on.
func TestEachMayBeLeftAndGoneOverAgain(t *testing.T) {
	s := "10.0.0.1 10.0.0.2 10.0.0.3 10.0.0.4"
	want := []told{{0, 0x0a000001}, {9, 0x0a000002}, {18, 0x0a000003}, {27, 0x0a000004}}
	it := addr.Each(s)
	for n := range 2 * len(want) {
		stop := n%len(want) + 1
		var l []told
		it(func(at int, a api.Addr) bool {
			l = append(l, told{at, a})
			return len(l) < stop
		})
		if !slices.Equal(l, want[:stop]) {
			t.Errorf("left behind %d, it has told %v", stop, l)
		}
	}
	for range 2 {
		var l []told
		for at, a := range it {
			l = append(l, told{at, a})
		}
		if !slices.Equal(l, want) {
			t.Errorf("gone over again, it tells %v", l)
		}
	}
}

// P1.3: two that go over the same list do not hinder each other.
func TestEachWithinItself(t *testing.T) {
	it := addr.Each("10.0.0.1 10.0.0.2 10.0.0.3")
	var l []int
	for at := range it {
		for within := range it {
			l = append(l, at+within)
		}
	}
	if want := []int{0, 9, 18, 9, 18, 27, 18, 27, 36}; !slices.Equal(l, want) {
		t.Errorf("it tells %v, want %v", l, want)
	}
}

// P1.3
func TestEachOfLongLists(t *testing.T) {
	n := 20000
	s := strings.Repeat("10.0.0.1 ", n)
	i := 0
	for at, a := range addr.Each(s) {
		if at != 9*i || a != 0x0a000001 {
			t.Fatalf("the %d. is %#x at %d", i, a, at)
		}
		i++
	}
	if i != n {
		t.Errorf("it tells %d, want %d", i, n)
	}
	for _, s := range []string{strings.Repeat(" ", n), strings.Repeat("1", n), strings.Repeat("1.1.1.1", n), strings.Repeat("\xff", n)} {
		if l := all(s); l != nil {
			t.Errorf("Each(%q..) tells %v", s[:8], l)
		}
	}
}

// P1.3
func TestJoin(t *testing.T) {
	rows := []struct {
		l    []api.Addr
		want string
	}{
		{nil, ""},
		{[]api.Addr{}, ""},
		{[]api.Addr{0}, "0.0.0.0"},
		{[]api.Addr{0x0a000001}, "10.0.0.1"},
		{[]api.Addr{0x0a000002, 0x0a000001}, "10.0.0.2 10.0.0.1"},
		{[]api.Addr{0x0a000001, 0x0a000001, 0xffffffff}, "10.0.0.1 10.0.0.1 255.255.255.255"},
		{[]api.Addr{0, 0, 0, 0}, "0.0.0.0 0.0.0.0 0.0.0.0 0.0.0.0"},
	}
	for _, r := range rows {
		if s := addr.Join(r.l...); s != r.want {
			t.Errorf("Join(%v) = %q, want %q", r.l, s, r.want)
		}
	}
	if s := addr.Join(); s != "" {
		t.Errorf("Join() = %q", s)
	}
}

// P1.3: what is handed in is not changed, spare room behind it included.
func TestJoinLeavesItsListAsItIs(t *testing.T) {
	room := []api.Addr{3, 2, 1, 9, 8}
	addr.Join(room[:3]...)
	if !slices.Equal(room, []api.Addr{3, 2, 1, 9, 8}) {
		t.Errorf("Join left %v", room)
	}
}

// P1.4
func TestEachUndoesJoin(t *testing.T) {
	l := some()
	for _, n := range []int{0, 1, 2, 3, 15, len(l)} {
		s := addr.Join(l[:n]...)
		var back []api.Addr
		next := 0
		for at, a := range addr.Each(s) {
			if at != next {
				t.Fatalf("an address is told at %d, want %d", at, next)
			}
			next += len(addr.Text(a)) + 1
			back = append(back, a)
		}
		if !slices.Equal(back, l[:n]) {
			t.Errorf("Each of Join of %d addresses tells %d", n, len(back))
		}
	}
}
