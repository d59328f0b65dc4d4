package config_test

import (
	"fmt"
	"iter"
	"math"
	"reflect"
	"slices"
	"testing"

	"waywarden/api"
	"waywarden/config"
)

// row is a name, and the span that it has.
type row struct {
	name string
	n    int64
}

func rowsOf(s iter.Seq2[string, int64]) []row {
	var l []row
	for name, n := range s {
		l = append(l, row{name, n})
	}
	return l
}

// rows are what Spans must tell.
func rows(c api.Config) []row {
	var l []row
	for _, f := range fields() {
		l = append(l, row{f.name, *f.of(&c)})
	}
	return l
}

// P8.3
func TestSpans(t *testing.T) {
	want := []row{{"period", 10}, {"jitter", 4}, {"timeout", 60}, {"hold", 40}, {"garbage", 30}, {"quiet", 2}, {"spread", 1}}
	if got := rowsOf(config.Spans(plain())); !slices.Equal(got, want) {
		t.Errorf("Spans tells %v, want %v", got, want)
	}
}

// P8.3: of any configuration.
func TestSpansOfAny(t *testing.T) {
	l := wrong()
	l["standard"] = standard(nets(3))
	l["huge"] = api.Config{Period: math.MinInt64, Jitter: -1, Timeout: math.MaxInt64, Hold: 1 << 62, Garbage: -1 << 62, Quiet: 1000001, Spread: 1<<32 + 1, Cap: -5}
	for said, c := range l {
		if got := rowsOf(config.Spans(c)); !slices.Equal(got, rows(c)) {
			t.Errorf("%s: Spans tells %v, want %v", said, got, rows(c))
		}
	}
}

// P8.3: it may be left at any time, and gone over again.
func TestSpansLeftAndGoneOverAgain(t *testing.T) {
	c := plain()
	s, all := config.Spans(c), rows(c)
	for n := 1; n <= len(all); n++ {
		var l []row
		s(func(name string, ticks int64) bool {
			l = append(l, row{name, ticks})
			return len(l) < n
		})
		if !slices.Equal(l, all[:n]) {
			t.Errorf("left behind %d it tells %v", n, l)
		}
	}
	for name := range s {
		if got := rowsOf(s); !slices.Equal(got, all) {
			t.Errorf("at %s, gone over within itself, it tells %v", name, got)
		}
	}
	if got := rowsOf(s); !slices.Equal(got, all) {
		t.Errorf("gone over again it tells %v", got)
	}
}

// P8.3: what is told is as it was when Spans was called.
func TestSpansAsTheyWere(t *testing.T) {
	c := plain()
	s, want := config.Spans(c), rows(c)
	var l []row
	for name, n := range s {
		l = append(l, row{name, n})
		for _, f := range fields() {
			*f.of(&c)++
		}
	}
	if !slices.Equal(l, want) {
		t.Errorf("changed under way: %v, want %v", l, want)
	}
	if got := rowsOf(s); !slices.Equal(got, want) {
		t.Errorf("changed ahead: %v, want %v", got, want)
	}
}

// P8.3: of any configuration, too.
func TestCopy(t *testing.T) {
	l := wrong()
	l["plain"] = plain()
	for said, c := range l {
		if d := config.Copy(c); !reflect.DeepEqual(d, c) || !config.Same(c, d) {
			t.Errorf("%s: Copy = %v, want %v", said, d, c)
		}
	}
	c := plain()
	c.Own = []api.Prefix{}
	if d := config.Copy(c); len(d.Own) != 0 || !config.Same(c, d) {
		t.Errorf("Copy of one of an empty list = %v", d)
	}
}

// P8.3: another one: neither sees what becomes of the other.
func TestCopyIsAnother(t *testing.T) {
	room := nets(6)
	c := plain()
	c.Own = room[:3]
	d, e := config.Copy(c), config.Copy(c)
	c.Own[0] = net(10)
	d.Own[1] = net(11)
	_ = append(d.Own, net(12))
	_ = append(c.Own, net(13))
	if !slices.Equal(c.Own, []api.Prefix{net(10), net(1), net(2)}) || room[3] != net(13) {
		t.Errorf("the first one has %v, and behind it %v", c.Own, room[3])
	}
	if !slices.Equal(d.Own, []api.Prefix{net(0), net(11), net(2)}) {
		t.Errorf("its copy has %v", d.Own)
	}
	if !slices.Equal(e.Own, nets(3)) {
		t.Errorf("its other copy has %v", e.Own)
	}
}

// others are configurations of which no two are the same: each differs from plain in one part.
func others() []api.Config {
	l := []api.Config{plain(), {}}
	for _, f := range fields() {
		for _, n := range []int64{math.MinInt64, -1, 0, 5, 1<<32 + *f.of(&l[0]), math.MaxInt64} {
			c := plain()
			*f.of(&c) = n
			l = append(l, c)
		}
	}
	for _, n := range []int{math.MinInt, -1, 0, 21, 1<<32 + 20, math.MaxInt} {
		c := plain()
		c.Cap = n
		l = append(l, c)
	}
	for _, own := range [][]api.Prefix{
		nil,
		{net(3)}, {net(3), net(1)}, {net(3), net(1), net(2), net(4)}, {net(3), net(1), net(2), net(2)},
		{net(1), net(2), net(3)}, {net(3), net(2), net(1)}, {net(3), net(1), net(4)}, {net(3), net(3), net(2)},
		{net(3), {Addr: net(1).Addr, Len: 25}, net(2)}, {net(3), {Addr: net(1).Addr + 1, Len: 24}, net(2)}, {net(3), {Addr: net(1).Addr, Len: -24}, net(2)},
	} {
		c := plain()
		c.Own = own
		l = append(l, c)
	}
	return l
}

// P8.3
func TestSame(t *testing.T) {
	l := others()
	for i, a := range l {
		for j, b := range l {
			if got := config.Same(a, b); got != (i == j) {
				t.Errorf("Same(%v, %v) = %t", a, b, got)
			}
		}
		if !config.Same(a, config.Copy(a)) {
			t.Errorf("Same of %v and its copy = false", a)
		}
	}
}

// P8.3: none and empty are the same; room behind the list is no part of it.
func TestSameOfLists(t *testing.T) {
	a, b := plain(), plain()
	a.Own, b.Own = nil, []api.Prefix{}
	if !config.Same(a, b) || !config.Same(b, a) {
		t.Error("none and empty are not the same")
	}
	a.Own, b.Own = nets(2), nets(5)[:2]
	if !config.Same(a, b) || !config.Same(b, a) {
		t.Error("room behind a list makes it another one")
	}
}

// P8.3: two spans that are one another's are not the same.
func TestSameOfSpansTurned(t *testing.T) {
	for i, f := range fields() {
		for _, g := range fields()[i+1:] {
			a, b := plain(), plain()
			*f.of(&b), *g.of(&b) = *g.of(&a), *f.of(&a)
			if config.Same(a, b) {
				t.Error(fmt.Sprint(f.name, " and ", g.name, " turned make no difference"))
			}
		}
	}
}
